import Derived.Test.YtekpghcckdjnhaaGreatDoorBa27
import Derived.Test.YtekpghcckdjnhaaGreatDoorBa14
set_option maxRecDepth 100000
set_option maxHeartbeats 8000000
namespace Go.Proofs.YtekpghcckdjnhaaGreatDoor
open Go.RowKit Go.Proofs.Tryz
theorem ze0.from {rb:Nat} {s:ByteArray} {tb kt:Bool} {w w1 w':World} {o:Option (JV×Nat)} {e:Ending} (k:KB rb w w1) (h:ze0 rb s tb kt w1 o e w') : ze0 rb s tb kt w o e w':=by
 obtain⟨h1,h2⟩:=h
 refine⟨k.trans h1,?_⟩
 cases o with
 | none=>exact h2
 | some q=>
  obtain⟨t,p,he,hr,hrep⟩:=h2
  exact⟨t,p,he,hr,fun a b=>Rep.keep (fun _ _=>rfl) (fun k' hk=>⟨yP k.size hk.1,hk.2⟩) _ _ (hrep a b)⟩
theorem znM (s:ByteArray) (i:Nat) : zi6 s i ⟨#[110,117,108,108]⟩↔zdm s i=true:=by
 unfold zdm
 simp only[Bool.and_eq_true,yC]
 constructor
 ·intro h
  exact⟨⟨⟨h 0 (by decide),h 1 (by decide)⟩,h 2 (by decide)⟩,h 3 (by decide)⟩
 ·rintro⟨⟨⟨h0,h1⟩,h2⟩,h3⟩ k hk
  have hk':k < 4:=hk
  rcases (show k=0∨k=1∨k=2∨k=3 by omega) with rfl | rfl | rfl | rfl
  ·exact h0
  ·exact h1
  ·exact h2
  ·exact h3
theorem znN (s:ByteArray) (i:Nat) : zi6 s i ⟨#[116,114,117,101]⟩↔zdJ s i=true:=by
 unfold zdJ
 simp only[Bool.and_eq_true,yC]
 constructor
 ·intro h
  exact⟨⟨⟨h 0 (by decide),h 1 (by decide)⟩,h 2 (by decide)⟩,h 3 (by decide)⟩
 ·rintro⟨⟨⟨h0,h1⟩,h2⟩,h3⟩ k hk
  have hk':k < 4:=hk
  rcases (show k=0∨k=1∨k=2∨k=3 by omega) with rfl | rfl | rfl | rfl
  ·exact h0
  ·exact h1
  ·exact h2
  ·exact h3
theorem zkM (s:ByteArray) (i:Nat) : zi6 s i ⟨#[102,97,108,115,101]⟩↔zco s i=true:=by
 unfold zco
 simp only[Bool.and_eq_true,yC]
 constructor
 ·intro h
  exact⟨⟨⟨⟨h 0 (by decide),h 1 (by decide)⟩,h 2 (by decide)⟩,h 3 (by decide)⟩,h 4 (by decide)⟩
 ·rintro⟨⟨⟨⟨h0,h1⟩,h2⟩,h3⟩,h4⟩ k hk
  have hk':k < 5:=hk
  rcases (show k=0∨k=1∨k=2∨k=3∨k=4 by omega) with rfl | rfl | rfl | rfl | rfl
  ·exact h0
  ·exact h1
  ·exact h2
  ·exact h3
  ·exact h4
theorem zjw {s:ByteArray} {i:Nat} (h45:bt s i≠45) (h:¬ zbo (bt s i)=true) : nm s i=none:=by
 unfold nm
 rw[show nmD s i=i by unfold nmD; rw[yf h45],yf h]
theorem zmr {s:ByteArray} {i:Nat} (h:zdm s i=true) : bt s i=110:=by simp[zdm] at h; exact h.1.1.1
theorem zms {s:ByteArray} {i:Nat} (h:zdJ s i=true) : bt s i=116:=by simp[zdJ] at h; exact h.1.1.1
theorem zjx {s:ByteArray} {i:Nat} (h:zco s i=true) : bt s i=102:=by simp[zco] at h; exact h.1.1.1.1
theorem zxZ {s:ByteArray} {i:Nat} (h:bt s i=110) : val s i=if zdm s i=true then some (.nul,i+4) else none:=by
 rw[zcz (by omega) (by omega) (by omega)]
 split
 ·rfl
 ·rw[yf (fun g=>by have:=zms g; omega),yf (fun g=>by have:=zjx g; omega),zjw (by omega) (by rw[h]; decide)]; rfl
theorem zx0 {s:ByteArray} {i:Nat} (h:bt s i=116) : val s i=if zdJ s i=true then some (.tt,i+4) else none:=by
 rw[zcz (by omega) (by omega) (by omega),yf (fun g=>by have:=zmr g; omega)]
 split
 ·rfl
 ·rw[yf (fun g=>by have:=zjx g; omega),zjw (by omega) (by rw[h]; decide)]; rfl
theorem zx1 {s:ByteArray} {i:Nat} (h:bt s i=102) : val s i=if zco s i=true then some (.ff,i+5) else none:=by
 rw[zcz (by omega) (by omega) (by omega),yf (fun g=>by have:=zmr g; omega),yf (fun g=>by have:=zms g; omega)]
 split
 ·rfl
 ·rw[zjw (by omega) (by rw[h]; decide)]; rfl
theorem zx2 {s:ByteArray} {i:Nat} (h1:bt s i≠91) (h2:bt s i≠123) (h3:bt s i≠34) (h4:bt s i≠110) (h5:bt s i≠116) (h6:bt s i≠102) : val s i=(nm s i).map fun q=>(.num q.1,q.2):=by
 rw[zcz h1 h2 h3,yf (fun g=>h4 (zmr g)),yf (fun g=>h5 (zms g)),yf (fun g=>h6 (zjx g))]
theorem zkN (rb:Nat) (s:ByteArray) (i:Nat) (tb kt:Bool) (w:World) (h:Rdr rb s i tb kt w) (hs:s.size<=100000) (hi:i<=s.size) (B:Nat) (hT:zb2 B w) (hE:zhj B w) (hB:B<=rb)
  (HA:∀ w1,Rdr rb s i tb kt w1->KB rb w w1->bt s i=91->Calls prog 176 #[.pointer (some ⟨rb,0,none⟩)] w1 (ze0 rb s tb kt w1 (val s i)))
  (HO:∀ w1,Rdr rb s i tb kt w1->KB rb w w1->bt s i=123->Calls prog 177 #[.pointer (some ⟨rb,0,none⟩)] w1 (ze0 rb s tb kt w1 (val s i))) :
  Calls prog 155 #[.pointer (some ⟨rb,0,none⟩)] w (ze0 rb s tb kt w (val s i)):=by
 have hlt:=h.lt
 have HP:=zab (zhK rb s i tb kt w h hi)
 have HHA:=zab HA
 have HHO:=zab HO
 have HT:=zab hT
 have HE:=zab hE
 clear h HA HO hT hE
 go_enter func155,ntmps155
 go_wp2_with fail
 refine (uh HP).mono ?_
 rintro e w1 ⟨rfl,r1,k1⟩
 have R1:=zab r1
 clear HP r1
 by_cases cn:bt s i=110
 ·have t1:((bt s i:Int) == 110)=true:=by rw[yC]; omega
  have HV:=zab (zxZ cn)
  cases hw:zdm s i with
  | true=>
   have HW:=zab (zgP rb s i tb kt w1 (uh R1) (by omega) ⟨#[110,117,108,108]⟩ (by decide) (zeD hw) ((znM s i).2 hw))
   have HR:Hid (val s i=some (.nul,i+4)):=by show _=_; rw[uh HV,yg hw]
   clear cn hw
   go_wp2_with fail
   refine (uh HW).mono ?_
   rintro e w2 ⟨rfl,r2,k2⟩
   have R2:=zab r2
   have K2:=k1.trans k2
   clear HW r2
   go_wp2
   go_ret
   refine⟨K2,?_⟩
   rw[uh HR]
   exact⟨_,_,rfl,by simp only[zbf,twV,Bool.or_false]; exact uh R2,fun _ _=>by rw[Rep]⟩
  | false=>
   have HW:=zab (zke rb s i tb kt w1 (uh R1) (by omega) ⟨#[110,117,108,108]⟩ (by decide) (by decide) hi (fun g=>by rw[(znM s i).1 g] at hw; cases hw))
   have HR:Hid (val s i=none):=by show _=_; rw[uh HV,yf (by rw[hw]; simp)]
   clear cn hw
   go_wp2_with fail
   refine (uh HW).mono ?_
   rintro e w2 ⟨rfl,k2⟩
   exact⟨rfl,k1.trans k2,by rw[uh HR]; rfl⟩
 have f1:((bt s i:Int) == 110)=false:=by rw[yd]; omega
 by_cases ct':bt s i=116
 ·have t1:((bt s i:Int) == 116)=true:=by rw[yC]; omega
  have HV:=zab (zx0 ct')
  cases hw:zdJ s i with
  | true=>
   have HW:=zab (zgP rb s i tb kt w1 (uh R1) (by omega) ⟨#[116,114,117,101]⟩ (by decide) (zeE hw) ((znN s i).2 hw))
   have HR:Hid (val s i=some (.tt,i+4)):=by show _=_; rw[uh HV,yg hw]
   clear cn ct' hw
   go_wp2_with fail
   refine (uh HW).mono ?_
   rintro e w2 ⟨rfl,r2,k2⟩
   have R2:=zab r2
   have K2:=k1.trans k2
   clear HW r2
   go_wp2
   go_ret
   refine⟨K2,?_⟩
   rw[uh HR]
   exact⟨_,_,rfl,by simp only[zbf,twV,Bool.or_false]; exact uh R2,fun _ _=>by rw[Rep]⟩
  | false=>
   have HW:=zab (zke rb s i tb kt w1 (uh R1) (by omega) ⟨#[116,114,117,101]⟩ (by decide) (by decide) hi (fun g=>by rw[(znN s i).1 g] at hw; cases hw))
   have HR:Hid (val s i=none):=by show _=_; rw[uh HV,yf (by rw[hw]; simp)]
   clear cn ct' hw
   go_wp2_with fail
   refine (uh HW).mono ?_
   rintro e w2 ⟨rfl,k2⟩
   exact⟨rfl,k1.trans k2,by rw[uh HR]; rfl⟩
 have f2:((bt s i:Int) == 116)=false:=by rw[yd]; omega
 by_cases cf:bt s i=102
 ·have t1:((bt s i:Int) == 102)=true:=by rw[yC]; omega
  have HV:=zab (zx1 cf)
  cases hw:zco s i with
  | true=>
   have HW:=zab (zgP rb s i tb kt w1 (uh R1) (by omega) ⟨#[102,97,108,115,101]⟩ (by decide) (zef hw) ((zkM s i).2 hw))
   have HR:Hid (val s i=some (.ff,i+5)):=by show _=_; rw[uh HV,yg hw]
   clear cn ct' cf hw
   go_wp2_with fail
   refine (uh HW).mono ?_
   rintro e w2 ⟨rfl,r2,k2⟩
   have R2:=zab r2
   have K2:=k1.trans k2
   clear HW r2
   go_wp2
   go_ret
   refine⟨K2,?_⟩
   rw[uh HR]
   exact⟨_,_,rfl,by simp only[zbf,twV,Bool.or_false]; exact uh R2,fun _ _=>by rw[Rep]⟩
  | false=>
   have HW:=zab (zke rb s i tb kt w1 (uh R1) (by omega) ⟨#[102,97,108,115,101]⟩ (by decide) (by decide) hi (fun g=>by rw[(zkM s i).1 g] at hw; cases hw))
   have HR:Hid (val s i=none):=by show _=_; rw[uh HV,yf (by rw[hw]; simp)]
   clear cn ct' cf hw
   go_wp2_with fail
   refine (uh HW).mono ?_
   rintro e w2 ⟨rfl,k2⟩
   exact⟨rfl,k1.trans k2,by rw[uh HR]; rfl⟩
 have f3:((bt s i:Int) == 102)=false:=by rw[yd]; omega
 by_cases cq:bt s i=34
 ·have t1:((bt s i:Int) == 34)=true:=by rw[yC]; omega
  have HV:=zab (zmZ cq)
  have HS:=zab (zd5 rb s i tb kt w1 (uh R1) (by omega) hi B ((uh HT).next (k1.below hB (by omega)) (ye _)) hB)
  cases hq:zcM s i with
  | none=>
   have HR:Hid (val s i=none):=by show _=_; rw[uh HV,hq]; rfl
   rw[hq] at HS
   clear cn ct' cf cq hq
   go_wp2_with fail
   refine (uh HS).mono ?_
   rintro e w2 ⟨k2,rfl⟩
   exact⟨rfl,k1.trans k2,by rw[uh HR]; rfl⟩
  | some q=>
   obtain⟨l,j⟩:=q
   have HR:Hid (val s i=some (.str l,j)):=by show _=_; rw[uh HV,hq]; rfl
   rw[hq] at HS
   clear cn ct' cf cq hq
   go_wp2_with fail
   refine (uh HS).mono ?_
   rintro e w2 ⟨k2,rfl,r2⟩
   have R2:=zab r2
   have K2:=k1.trans k2
   clear HS r2
   go_wp2
   go_ret
   refine⟨K2,?_⟩
   rw[uh HR]
   exact⟨_,_,rfl,by simp only[zbf,twV,Bool.or_false]; exact uh R2,fun _ _=>by rw[Rep]⟩
 have f4:((bt s i:Int) == 34)=false:=by rw[yd]; omega
 by_cases ca:bt s i=91
 ·have t1:((bt s i:Int) == 91)=true:=by rw[yC]; omega
  have HS:=zab (uh HHA _ (uh R1) k1 ca)
  clear cn ct' cf cq ca HHA HHO
  cases hv:val s i with
  | none=>
   rw[hv] at HS
   have HVV:=zab hv
   clear hv
   go_wp2_with fail
   refine (uh HS).mono ?_
   rintro e w2 ⟨k2,rfl⟩
   exact⟨rfl,k1.trans k2,by rw[uh HVV]; rfl⟩
  | some q=>
   rw[hv] at HS
   have HVV:=zab hv
   clear hv
   go_wp2_with fail
   refine (uh HS).mono ?_
   rintro e w2 hp
   have HPP:=zab (hp.from k1)
   obtain⟨k2,t,p,rfl,_,_⟩:=hp
   go_wp2
   go_ret
   rw[uh HVV]
   exact uh HPP
 have f5:((bt s i:Int) == 91)=false:=by rw[yd]; omega
 by_cases co:bt s i=123
 ·have t1:((bt s i:Int) == 123)=true:=by rw[yC]; omega
  have HS:=zab (uh HHO _ (uh R1) k1 co)
  clear cn ct' cf cq ca co HHA HHO
  cases hv:val s i with
  | none=>
   rw[hv] at HS
   have HVV:=zab hv
   clear hv
   go_wp2_with fail
   refine (uh HS).mono ?_
   rintro e w2 ⟨k2,rfl⟩
   exact⟨rfl,k1.trans k2,by rw[uh HVV]; rfl⟩
  | some q=>
   rw[hv] at HS
   have HVV:=zab hv
   clear hv
   go_wp2_with fail
   refine (uh HS).mono ?_
   rintro e w2 hp
   have HPP:=zab (hp.from k1)
   obtain⟨k2,t,p,rfl,_,_⟩:=hp
   go_wp2
   go_ret
   rw[uh HVV]
   exact uh HPP
 have f6:((bt s i:Int) == 123)=false:=by rw[yd]; omega
 have HV:=zab (zx2 ca co cq cn ct' cf)
 have HS:=zab (zhl rb s i tb kt w1 (uh R1) hs hi B ((uh HE).next (k1.below hB (by omega)) (ye _)) hB)
 clear cn ct' cf cq ca co HHA HHO
 cases hn:nm s i with
 | none=>
  have HR:Hid (val s i=none):=by show _=_; rw[uh HV,hn]; rfl
  rw[hn] at HS
  clear hn
  go_wp2_with fail
  refine (uh HS).mono ?_
  rintro e w2 ⟨k2,rfl⟩
  exact⟨rfl,k1.trans k2,by rw[uh HR]; rfl⟩
 | some q=>
  obtain⟨l,j⟩:=q
  have HR:Hid (val s i=some (.num l,j)):=by show _=_; rw[uh HV,hn]; rfl
  rw[hn] at HS
  clear hn
  go_wp2_with fail
  refine (uh HS).mono ?_
  rintro e w2 ⟨k2,z,rfl,r2,hz⟩
  have R2:=zab r2
  have HZ:=zab hz
  have K2:=k1.trans k2
  clear HS r2 hz
  go_wp2
  go_ret
  refine⟨K2,?_⟩
  rw[uh HR]
  refine⟨_,_,rfl,by simp only[zbf,twV,Bool.or_false]; exact uh R2,fun hb _=>?_⟩
  rw[Rep]
  exact⟨z,rfl,uh HZ (by simpa only [zbf] using hb)⟩
theorem KB.keep {rb:Nat} {w w':World} {S:Nat->Prop} (k:KB rb w w') (hS:∀ b,S b->b < w.heap.size/\b≠rb) : ∀ b,S b->w'.heap[b]?=w.heap[b]?:=fun b hb=>k.block b (hS b hb).1 (hS b hb).2
theorem znO (rb:Nat) (s:ByteArray) (i:Nat) (tb kt:Bool) (w:World) (h:Rdr rb s i tb kt w) (hs:s.size<=100000) (hi:i<=s.size)
  (HB:∀ w1,Rdr rb s (sk s i) tb kt w1->KB rb w w1->Calls prog 155 #[.pointer (some ⟨rb,0,none⟩)] w1 (ze0 rb s tb kt w1 (val s (sk s i)))) :
  Calls prog 127 #[.pointer (some ⟨rb,0,none⟩)] w (ze0 rb s tb kt w ((val s (sk s i)).map fun q=>(q.1,sk s q.2))):=by
 have hlt:=h.lt
 have HSK:=zab (zbb rb s i tb kt w h (by omega) hi)
 have HBB:=zab HB
 clear h HB
 go_enter func127,ntmps127
 go_wp2_with fail
 refine (uh HSK).mono ?_
 rintro e w1 ⟨rfl,r1,k1⟩
 have HS:=zab (uh HBB w1 r1 k1)
 clear HSK HBB r1
 cases hv:val s (sk s i) with
 | none=>
  rw[hv] at HS
  have HVV:=zab hv
  clear hv
  go_wp2_with fail
  refine (uh HS).mono ?_
  rintro e w2 ⟨k2,rfl⟩
  exact⟨rfl,k1.trans k2,by rw[uh HVV]; rfl⟩
 | some q=>
  obtain⟨v,j⟩:=q
  have hvo:=zeV hv
  rw[hv] at HS
  have HVV:=zab hv
  clear hv
  go_wp2_with fail
  refine (uh HS).mono ?_
  rintro e w2 hp
  obtain⟨k2,t,p,rfl,r2,hrep⟩:=hp
  have HE:=zab (zbb rb s j _ _ w2 r2 (by omega) hvo.2)
  have HREP:=zab hrep
  have hs1:=k1.size
  have hs2:=k2.size
  clear HS hrep r2
  go_wp2_with fail
  refine (uh HE).mono ?_
  rintro e w3 ⟨rfl,r3,k3⟩
  have R3:=zab r3
  have hs3:=k3.size
  clear HE r3
  go_wp2
  go_ret
  rw[uh HVV]
  exact⟨(k1.trans k2).trans k3,t,p,rfl,uh R3,fun a b=>Rep.keep (k3.keep fun b hb=>⟨hb.2,by omega⟩) (fun b hb=>⟨by omega,by omega⟩) _ _ (uh HREP a b)⟩
def zoR (s:ByteArray) (i:Nat) : Option ((List UInt8×JV)×Nat):=(zcM s (sk s i)).bind fun k=>if bt s (sk s k.2)=58 then (val s (sk s (sk s k.2+1))).map fun q=>((k.1,q.1),sk s q.2) else none
def zx3 (rb b:Nat) (s:ByteArray) (tb kt:Bool) (xs:List (List UInt8×Value)) (nn:Nat) (w:World) (o:Option ((List UInt8×JV)×Nat)) (e:Ending) (w':World) : Prop:=
 KB2 rb b w w'/\o.elim (e=mis) fun q=>∃ (t:TypeId) (p:Value),e = .returned (.tuple #[])/\Rdr rb s q.2 (tb || zbf q.1.2) ((kt || twV q.1.2) || (xs.map (·.1)).contains q.1.1) w' /\
  w'.ownsMap prog 9 RH b (nn+1) (zao (xs++[(q.1.1,.iface t p)]))/\(zbf q.1.2=false->twV q.1.2=false->Rep w' (fun k=>w.heap.size<=k/\k < w'.heap.size) q.1.2 (.iface t p))
theorem Rdr.setTwice {rb:Nat} {s:ByteArray} {i:Nat} {tb kt:Bool} {w:World} (h:Rdr rb s i tb kt w) : Rdr rb s i tb true (w.setCell ⟨rb,3,none⟩ (.bool true)):=heap_setCell_same w rb 3 _ 184 (.bool true) h
theorem Rdr.twicec {rb:Nat} {s:ByteArray} {i:Nat} {tb kt:Bool} {w:World} (h:Rdr rb s i tb kt w) : w.cell? ⟨rb,3,none⟩=some (.bool kt):=by rw[yF h]; rfl
theorem KB2.grown {rb sc:Nat} {a w w':World} (h:KB2 rb sc a w) (g:w.grownBy w' (some sc)) : KB2 rb sc a w':=
 ⟨g.os.trans h.os,g.tape.trans h.tape,g.output.trans h.output,yP h.size g.size,fun i hi h1 h2=>(g.block i (yE hi h.size) (by intro e; injection e with e; exact h2 e)).trans (h.block i hi h1 h2)⟩
theorem zqE (key:List UInt8) (hk:key.length<=1048576) : keyOf prog 9 (.string (zac key))=some (.string key):=by
 have:=WideMaps.keyOf_string_mk underlying9 (s:=zac key) (by rw[zaf]; unfold maxLen; omega)
 rwa [zad] at this
theorem zd7 (rb:Nat) (s:ByteArray) (i:Nat) (tb kt:Bool) (w:World) (h:Rdr rb s i tb kt w) (hs:s.size<=100000) (hi:i<=s.size) (B:Nat) (hT:zb2 B w) (hB:B<=rb)
  (b nn:Nat) (xs:List (List UInt8×Value)) (hm:w.ownsMap prog 9 RH b nn (zao xs)) (hbr:rb < b) (hnn:nn<=1048576)
  (HV:∀ (j:Nat) (w1:World),i < j->j<=s.size->Rdr rb s j tb kt w1->KB rb w w1->Calls prog 127 #[.pointer (some ⟨rb,0,none⟩)] w1 (ze0 rb s tb kt w1 ((val s (sk s j)).map fun q=>(q.1,sk s q.2)))) :
  Calls prog 208 #[.pointer (some ⟨rb,0,none⟩),.map (some b)] w (zx3 rb b s tb kt xs nn w (zoR s i)):=by
 have hlt:=h.lt
 have hbl:=hm.lt
 have HSK:=zab (zbb rb s i tb kt w h (by omega) hi)
 have HT:=zab hT
 have HM:=zab hm
 have HHV:=zab HV
 have k0:=zaz s i
 have k1':=(zdG hi).2
 have HMR:Hid (zoR s i=(zcM s (sk s i)).bind fun k=>if bt s (sk s k.2)=58 then (val s (sk s (sk s k.2+1))).map fun q=>((k.1,q.1),sk s q.2) else none):=rfl
 clear h hT hm HV
 go_enter func208,ntmps208
 go_wp2_with fail
 refine (uh HSK).mono ?_
 rintro e w1 ⟨rfl,r1,k1⟩
 have HRS:=zab (zd5 rb s (sk s i) tb kt w1 r1 (by omega) k1' B ((uh HT).next (k1.below hB (by omega)) (ye _)) hB)
 clear HSK r1
 cases hq:zcM s (sk s i) with
 | none=>
  rw[hq] at HRS
  have HN:Hid (zoR s i=none):=by show _=_; rw[uh HMR,hq]; rfl
  clear hq
  go_wp2_with fail
  refine (uh HRS).mono ?_
  rintro e w2 ⟨k2,rfl⟩
  exact⟨rfl,(k1.trans k2).two b,by rw[uh HN]; rfl⟩
 | some q=>
  obtain⟨key,a⟩:=q
  have hqo:=zce hq
  have hql:=zfC hq
  have HN0:Hid (zoR s i=if bt s (sk s a)=58 then (val s (sk s (sk s a+1))).map fun q=>((key,q.1),sk s q.2) else none):=by show _=_; rw[uh HMR,hq]; rfl
  rw[hq] at HRS
  clear hq HMR
  go_wp2_with fail
  refine (uh HRS).mono ?_
  rintro e w2 ⟨k2,rfl,r2⟩
  have HS2:=zab (zbb rb s a tb kt w2 r2 (by omega) hqo.2)
  have K2:=zab (k1.trans k2)
  have ka0:=zaz s a
  have ka1:=(zdG hqo.2).2
  clear HRS r2 k1 k2
  go_wp2_with fail
  refine (uh HS2).mono ?_
  rintro e w3 ⟨rfl,r3,k3⟩
  have K3:=zab ((uh K2).trans k3)
  have R3:=zab r3
  clear HS2 r3 k3 K2
  generalize sk s a=ka at *
  by_cases h58:bt s ka=58
  ·have hkl:ka < s.size:=zaw (by omega)
   have HEX:=zab (zbO rb s ka tb kt w3 (uh R3) (by omega) 58 h58 hkl)
   rw[yg h58] at HN0
   clear h58
   go_wp2_with fail
   refine (uh HEX).mono ?_
   rintro e w4 ⟨rfl,r4,k4⟩
   have K4:=zab ((uh K3).trans k4)
   have HC:=zab (uh HHV (ka+1) w4 (by omega) (by omega) r4 (uh K4))
   clear HEX r4 k4 K3 R3
   cases hv:val s (sk s (ka+1)) with
   | none=>
    rw[hv] at HC
    have HN:Hid (zoR s i=none):=by show _=_; rw[uh HN0,hv]; rfl
    clear hv
    go_wp2_with fail
    refine (uh HC).mono ?_
    rintro e w5 ⟨k5,rfl⟩
    exact⟨rfl,((uh K4).trans k5).two b,by rw[uh HN]; rfl⟩
   | some q=>
    obtain⟨v,n⟩:=q
    rw[hv] at HC
    have HN:Hid (zoR s i=some ((key,v),sk s n)):=by show _=_; rw[uh HN0,hv]; rfl
    clear hv HN0
    go_wp2_with fail
    refine (uh HC).mono ?_
    rintro e w5 ⟨k5,t,p,rfl,r5,hrep⟩
    have K5:=zab ((uh K4).trans k5)
    have hs4:=(uh K4).size
    have hs5:=k5.size
    have M5:=zab (za1 (uh HM) ((uh K5).block b hbl (by omega)))
    obtain⟨v0,hlk,_⟩:=zjj (uh M5) key (by omega)
    have HREP:=zab hrep
    have R5:=zab r5
    have c3:=r5.twicec
    have f3:=r5.fz 3
    have HH:=zab (zg0 key xs)
    clear HC r5 hrep K4 HM
    have HKEY:=zab (zqE key (by omega))
    cases hl:(zeL xs key).isSome with
    | true=>
     rw[hl] at hlk
     have M6:=zab (za1 (w':=w5.setCell ⟨rb,3,none⟩ (.bool true)) (uh M5) (Below.heap_setCell w5 ⟨rb,3,none⟩ (.bool true) b (by show b≠rb; omega)))
     have R6:=zab (uh R5).setTwice
     go_wp2_with (refine wpList_mapUpdate_own _ rfl (.tmp 30) (.tmp 31) (.tmp 32) 226 rfl 9 66 (Maps.string_keyed underlying9) underlying226 RH b nn (zao xs) rfl (uh M6) (by unfold maxLen; omega) _ _ (.string key) rfl rfl (uh HKEY) (.held (.iface t p)) [] rfl ?_; intro w7 m7 g7)
     have hg7:=g7.size
     have R7:Rdr rb s (sk s n) (tb || zbf v) ((kt || twV v) || (xs.map (·.1)).contains key) w7:=by
      rw[← uh HH,hl]
      refine (g7.block rb ?_ (by intro e; injection e with e; omega)).trans ?_
      ·show rb < (w5.setCell _ _).heap.size; simp[World.setCell]; omega
      ·rw[Bool.or_true]; exact uh R6
     have Q7:zbf v=false->twV v=false->Rep w7 (fun k=>w.heap.size<=k/\k < w7.heap.size) v (.iface t p):=fun a b'=>by
      refine Rep.keep (w:=w5) (S:=fun k=>w4.heap.size<=k/\k < w5.heap.size) (fun k hk=>?_) (fun k hk=>?_) v _ (uh HREP a b')
      ·exact (g7.block k (by simp[World.setCell]; omega) (by intro e; injection e with e; omega)).trans (Below.heap_setCell w5 ⟨rb,3,none⟩ (.bool true) k (by show k≠rb; omega))
      ·have h9:(w5.setCell ⟨rb,3,none⟩ (.bool true)).heap.size=w5.heap.size:=by simp[World.setCell]
       exact⟨by omega,by omega⟩
     rw[← zbh] at m7
     have M7:=zab m7
     have K7:=zab ((((uh K5).set 3 (.bool true)).two b).grown g7)
     clear m7 g7
     go_end0
     refine⟨uh K7,?_⟩
     rw[uh HN]
     exact⟨t,p,rfl,R7,uh M7,Q7⟩
    | false=>
     rw[hl] at hlk
     go_wp2_with (refine wpList_mapUpdate_own _ rfl (.tmp 30) (.tmp 31) (.tmp 32) 226 rfl 9 66 (Maps.string_keyed underlying9) underlying226 RH b nn (zao xs) rfl (uh M5) (by unfold maxLen; omega) _ _ (.string key) rfl rfl (uh HKEY) (.held (.iface t p)) [] rfl ?_; intro w7 m7 g7)
     have hg7:=g7.size
     have R7:Rdr rb s (sk s n) (tb || zbf v) ((kt || twV v) || (xs.map (·.1)).contains key) w7:=by
      rw[← uh HH,hl]
      refine (g7.block rb ?_ (by intro e; injection e with e; omega)).trans ?_
      ·show rb < w5.heap.size; omega
      ·rw[Bool.or_false]; exact uh R5
     have Q7:zbf v=false->twV v=false->Rep w7 (fun k=>w.heap.size<=k/\k < w7.heap.size) v (.iface t p):=fun a b'=>by
      refine Rep.keep (w:=w5) (S:=fun k=>w4.heap.size<=k/\k < w5.heap.size) (fun k hk=>?_) (fun k hk=>?_) v _ (uh HREP a b')
      ·exact g7.block k (by omega) (by intro e; injection e with e; omega)
      ·have h9:True:=trivial
       exact⟨by omega,by omega⟩
     rw[← zbh] at m7
     have M7:=zab m7
     have K7:=zab (((uh K5).two b).grown g7)
     clear m7 g7
     go_end0
     refine⟨uh K7,?_⟩
     rw[uh HN]
     exact⟨t,p,rfl,R7,uh M7,Q7⟩
  ·have HEX:=zab (zec rb s ka tb kt w3 (uh R3) (by omega) ka1 58 (.inl h58))
   have HN:Hid (zoR s i=none):=by show _=_; rw[uh HN0,yf h58]
   clear h58
   go_wp2_with fail
   refine (uh HEX).mono ?_
   rintro e w4 ⟨rfl,k4⟩
   exact⟨rfl,((uh K3).trans k4).two b,by rw[uh HN]; rfl⟩
theorem zqF (s:ByteArray) (i:Nat) : sk s (sk s i)=sk s i:=zle (zxj s i)
theorem zmt:(prog.info? 66).map (fun i=>(i.zero,i.size,i.bytes))=some (some .nilIface,1,16):=by kernel_rfl
theorem zcU (w:World) (o:Obj) : Below w.heap.size w (w.alloc o):=(yH _ _).alloc (ye _) _
abbrev zoS (sv:Value) : Obj:=.cells #[sv] 198 (0,0)
end Go.Proofs.YtekpghcckdjnhaaGreatDoor
