import Derived.Test.YtpaecnbdoljafaaGreatDoorBz23
import Derived.Test.YtpaecnbdoljafaaGreatDoorBz21
set_option maxRecDepth 100000
set_option maxHeartbeats 8000000
namespace Go.Proofs.YtpaecnbdoljafaaGreatDoor
open Go.RowKit Go.Proofs.Tryz
theorem J0.from{rb:Nat}{s:Bs}{tb kt:Bool}{w w1 w':Wo}{o:Option (JV×Nat)}{e:Ending}(k:KB rb w w1)(h:J0 rb s tb kt w1 o e w'):J0 rb s tb kt w o e w':=by
 obtain⟨g,f⟩:=h;refine⟨k.trans g,?_⟩
 cases o with
 | none=>exact f
 | some q=>
  obtain⟨t,p,i,j,d⟩:=f;exact⟨t,p,i,j,fun a b=>zk.keep (fun _ _=>rfl) (fun k' hk=>⟨yQ k.size hk.1,hk.2⟩) _ _ (d a b)⟩
theorem M2(s:Bs)(i:Nat):UW s i ⟨#[110,117,108,108]⟩↔QX s i=true:=by
 unfold QX;simp only[Bool.and_eq_true,yD];constructor
 ·intro h;exact⟨⟨⟨h 0 (by decide),h 1 (by decide)⟩,h 2 (by decide)⟩,h 3 (by decide)⟩
 ·rintro⟨⟨⟨a,b⟩,d⟩,f⟩ k g;have j:k<4:=g;rcases (show k=0∨k=1∨k=2∨k=3 by omega)with rfl | rfl | rfl | rfl
  ·exact a
  ·exact b
  ·exact d
  ·exact f
theorem M3(s:Bs)(i:Nat):UW s i ⟨#[116,114,117,101]⟩↔Ja s i=true:=by
 unfold Ja;simp only[Bool.and_eq_true,yD];constructor
 ·intro h;exact⟨⟨⟨h 0 (by decide),h 1 (by decide)⟩,h 2 (by decide)⟩,h 3 (by decide)⟩
 ·rintro⟨⟨⟨a,b⟩,d⟩,f⟩ k g;have j:k<4:=g;rcases (show k=0∨k=1∨k=2∨k=3 by omega)with rfl | rfl | rfl | rfl
  ·exact a
  ·exact b
  ·exact d
  ·exact f
theorem M4(s:Bs)(i:Nat):UW s i ⟨#[102,97,108,115,101]⟩↔Ju s i=true:=by
 unfold Ju;simp only[Bool.and_eq_true,yD];constructor
 ·intro h;exact⟨⟨⟨⟨h 0 (by decide),h 1 (by decide)⟩,h 2 (by decide)⟩,h 3 (by decide)⟩,h 4 (by decide)⟩
 ·rintro⟨⟨⟨⟨a,b⟩,d⟩,f⟩,g⟩ k j;have l:k<5:=j;rcases (show k=0∨k=1∨k=2∨k=3∨k=4 by omega)with rfl | rfl | rfl | rfl | rfl
  ·exact a
  ·exact b
  ·exact d
  ·exact f
  ·exact g
theorem Ri{s:Bs}{i:Nat}(h45:bt s i≠45)(h:¬ zP (bt s i)=true):nm s i=none:=by
 unfold nm;rw[show zW s i=i by unfold zW;rw[yf h45],yf h]
theorem Rj{s:Bs}{i:Nat}(h:QX s i=true):bt s i=110:=by simp[QX]at h;exact h.1.1.1
theorem Rl{s:Bs}{i:Nat}(h:Ja s i=true):bt s i=116:=by simp[Ja]at h;exact h.1.1.1
theorem Rm{s:Bs}{i:Nat}(h:Ju s i=true):bt s i=102:=by simp[Ju]at h;exact h.1.1.1.1
theorem zbY{s:Bs}{i:Nat}(h:bt s i=110):val s i=if QX s i=true then some (.nul,i+4)else none:=by
 rw[VX (by omega) (by omega) (by omega)];split
 ·rfl
 ·rw[yf (fun g=>by have:=Rl g;omega),yf (fun g=>by have:=Rm g;omega),Ri (by omega) (by rw[h];decide)];rfl
theorem zbZ{s:Bs}{i:Nat}(h:bt s i=116):val s i=if Ja s i=true then some (.tt,i+4)else none:=by
 rw[VX (by omega) (by omega) (by omega),yf (fun g=>by have:=Rj g;omega)];split
 ·rfl
 ·rw[yf (fun g=>by have:=Rm g;omega),Ri (by omega) (by rw[h];decide)];rfl
theorem zb0{s:Bs}{i:Nat}(h:bt s i=102):val s i=if Ju s i=true then some (.ff,i+5)else none:=by
 rw[VX (by omega) (by omega) (by omega),yf (fun g=>by have:=Rj g;omega),yf (fun g=>by have:=Rl g;omega)];split
 ·rfl
 ·rw[Ri (by omega) (by rw[h];decide)];rfl
theorem zb1{s:Bs}{i:Nat}(h1:bt s i≠91)(h2:bt s i≠123)(h3:bt s i≠34)(h4:bt s i≠110)(h5:bt s i≠116)(h6:bt s i≠102):val s i=(nm s i).map fun q=>(.num q.1,q.2):=by
 rw[VX h1 h2 h3,yf (fun g=>h4 (Rj g)),yf (fun g=>h5 (Rl g)),yf (fun g=>h6 (Rm g))]
theorem M8 (rb:Nat) (s:Bs) (i:Nat) (tb kt:Bool) (w:Wo) (h:zE rb s i tb kt w) (hs:s.size<=100000) (hi:i<=s.size) (B:Nat) (hT:qL B w) (hE:Qt B w) (hB:B<=rb)
  (HA:∀ w1,zE rb s i tb kt w1->KB rb w w1->bt s i=91->Calls prog 168 #[.pointer (some ⟨rb,0,none⟩)] w1 (J0 rb s tb kt w1 (val s i)))
  (HO:∀ w1,zE rb s i tb kt w1->KB rb w w1->bt s i=123->Calls prog 169 #[.pointer (some ⟨rb,0,none⟩)] w1 (J0 rb s tb kt w1 (val s i))):
  Calls prog 123 #[.pointer (some ⟨rb,0,none⟩)] w (J0 rb s tb kt w (val s i)):=by
 have P:=h.lt;have J:=ze (Pq rb s i tb kt w h hi);have x:=ze HA;have y:=ze HO;have N:=ze hT;have M:=ze hE;clear h HA HO hT hE;go_in;go_wp2_with fail;refine (uh J).mono ?_;rintro e w1 ⟨rfl,L,f⟩;have v:=ze L;clear J L;by_cases r:bt s i=110
 ·have H:((bt s i:Int) ==110)=true:=by rw[yD];omega
  have m:=ze (zbY r)
  cases hw:QX s i with
  | true=>
   have n:=ze (Oc rb s i tb kt w1 (uh v) (by omega) ⟨#[110,117,108,108]⟩ (by decide) (UD hw) ((M2 s i).2 hw));have HR:Hid (val s i=some (.nul,i+4)):=by show _=_;rw[uh m,yg hw]
   clear r hw;go_wp2_with fail;refine (uh n).mono ?_;rintro e u ⟨rfl,o,a⟩;have C:=ze o;have A:=f.trans a;clear n o;go_wp2;go_ret;refine⟨A,?_⟩;rw[uh HR];exact⟨_,_,rfl,by simp only[zV,zw,Bool.or_false];exact uh C,fun _ _=>by rw[zk]⟩
  | false=>
   have n:=ze (Od rb s i tb kt w1 (uh v) (by omega) ⟨#[110,117,108,108]⟩ (by decide) (by decide) hi (fun g=>by rw[(M2 s i).1 g]at hw;cases hw));have HR:Hid (val s i=none):=by show _=_;rw[uh m,yf (by rw[hw];simp)]
   clear r hw;go_wp2_with fail;refine (uh n).mono ?_;rintro e u ⟨rfl,a⟩;exact⟨rfl,f.trans a,by rw[uh HR];rfl⟩
 have Q:((bt s i:Int) ==110)=false:=by rw[yd];omega
 by_cases b:bt s i=116
 ·have H:((bt s i:Int) ==116)=true:=by rw[yD];omega
  have m:=ze (zbZ b)
  cases hw:Ja s i with
  | true=>
   have n:=ze (Oc rb s i tb kt w1 (uh v) (by omega) ⟨#[116,114,117,101]⟩ (by decide) (UE hw) ((M3 s i).2 hw));have HR:Hid (val s i=some (.tt,i+4)):=by show _=_;rw[uh m,yg hw]
   clear r b hw;go_wp2_with fail;refine (uh n).mono ?_;rintro e u ⟨rfl,o,a⟩;have C:=ze o;have A:=f.trans a;clear n o;go_wp2;go_ret;refine⟨A,?_⟩;rw[uh HR];exact⟨_,_,rfl,by simp only[zV,zw,Bool.or_false];exact uh C,fun _ _=>by rw[zk]⟩
  | false=>
   have n:=ze (Od rb s i tb kt w1 (uh v) (by omega) ⟨#[116,114,117,101]⟩ (by decide) (by decide) hi (fun g=>by rw[(M3 s i).1 g]at hw;cases hw));have HR:Hid (val s i=none):=by show _=_;rw[uh m,yf (by rw[hw];simp)]
   clear r b hw;go_wp2_with fail;refine (uh n).mono ?_;rintro e u ⟨rfl,a⟩;exact⟨rfl,f.trans a,by rw[uh HR];rfl⟩
 have R:((bt s i:Int) ==116)=false:=by rw[yd];omega
 by_cases cf:bt s i=102
 ·have H:((bt s i:Int) ==102)=true:=by rw[yD];omega
  have m:=ze (zb0 cf)
  cases hw:Ju s i with
  | true=>
   have n:=ze (Oc rb s i tb kt w1 (uh v) (by omega) ⟨#[102,97,108,115,101]⟩ (by decide) (Kz hw) ((M4 s i).2 hw));have HR:Hid (val s i=some (.ff,i+5)):=by show _=_;rw[uh m,yg hw]
   clear r b cf hw;go_wp2_with fail;refine (uh n).mono ?_;rintro e u ⟨rfl,o,a⟩;have C:=ze o;have A:=f.trans a;clear n o;go_wp2;go_ret;refine⟨A,?_⟩;rw[uh HR];exact⟨_,_,rfl,by simp only[zV,zw,Bool.or_false];exact uh C,fun _ _=>by rw[zk]⟩
  | false=>
   have n:=ze (Od rb s i tb kt w1 (uh v) (by omega) ⟨#[102,97,108,115,101]⟩ (by decide) (by decide) hi (fun g=>by rw[(M4 s i).1 g]at hw;cases hw));have HR:Hid (val s i=none):=by show _=_;rw[uh m,yf (by rw[hw];simp)]
   clear r b cf hw;go_wp2_with fail;refine (uh n).mono ?_;rintro e u ⟨rfl,a⟩;exact⟨rfl,f.trans a,by rw[uh HR];rfl⟩
 have S:((bt s i:Int) ==102)=false:=by rw[yd];omega
 by_cases E:bt s i=34
 ·have H:((bt s i:Int) ==34)=true:=by rw[yD];omega
  have m:=ze (PE E);have d:=ze (Aw rb s i tb kt w1 (uh v) (by omega) hi B ((uh N).next (f.below hB (by omega)) (ye _)) hB)
  cases hq:Zz s i with
  | none=>
   have HR:Hid (val s i=none):=by show _=_;rw[uh m,hq];rfl
   rw[hq]at d;clear r b cf E hq;go_wp2_with fail;refine (uh d).mono ?_;rintro e u ⟨a,rfl⟩;exact⟨rfl,f.trans a,by rw[uh HR];rfl⟩
  | some q=>
   obtain⟨l,j⟩:=q;have HR:Hid (val s i=some (.str l,j)):=by show _=_;rw[uh m,hq];rfl
   rw[hq]at d;clear r b cf E hq;go_wp2_with fail;refine (uh d).mono ?_;rintro e u ⟨a,rfl,o⟩;have C:=ze o;have A:=f.trans a;clear d o;go_wp2;go_ret;refine⟨A,?_⟩;rw[uh HR];exact⟨_,_,rfl,by simp only[zV,zw,Bool.or_false];exact uh C,fun _ _=>by rw[zk]⟩
 have T:((bt s i:Int) ==34)=false:=by rw[yd];omega
 by_cases F:bt s i=91
 ·have H:((bt s i:Int) ==91)=true:=by rw[yD];omega
  have d:=ze (uh x _ (uh v) f F);clear r b cf E F x y
  cases hv:val s i with
  | none=>
   rw[hv]at d;have k:=ze hv;clear hv;go_wp2_with fail;refine (uh d).mono ?_;rintro e u ⟨a,rfl⟩;exact⟨rfl,f.trans a,by rw[uh k];rfl⟩
  | some q=>
   rw[hv]at d;have k:=ze hv;clear hv;go_wp2_with fail;refine (uh d).mono ?_;rintro e u G;have D:=ze (G.from f);obtain⟨a,t,p,rfl,_,_⟩:=G;go_wp2;go_ret;rw[uh k];exact uh D
 have U:((bt s i:Int) ==91)=false:=by rw[yd];omega
 by_cases I:bt s i=123
 ·have H:((bt s i:Int) ==123)=true:=by rw[yD];omega
  have d:=ze (uh y _ (uh v) f I);clear r b cf E F I x y
  cases hv:val s i with
  | none=>
   rw[hv]at d;have k:=ze hv;clear hv;go_wp2_with fail;refine (uh d).mono ?_;rintro e u ⟨a,rfl⟩;exact⟨rfl,f.trans a,by rw[uh k];rfl⟩
  | some q=>
   rw[hv]at d;have k:=ze hv;clear hv;go_wp2_with fail;refine (uh d).mono ?_;rintro e u G;have D:=ze (G.from f);obtain⟨a,t,p,rfl,_,_⟩:=G;go_wp2;go_ret;rw[uh k];exact uh D
 have V:((bt s i:Int) ==123)=false:=by rw[yd];omega
 have m:=ze (zb1 F I E r b cf);have d:=ze (zbX rb s i tb kt w1 (uh v) hs hi B ((uh M).next (f.below hB (by omega)) (ye _)) hB);clear r b cf E F I x y
 cases hn:nm s i with
 | none=>
  have HR:Hid (val s i=none):=by show _=_;rw[uh m,hn];rfl
  rw[hn]at d;clear hn;go_wp2_with fail;refine (uh d).mono ?_;rintro e u ⟨a,rfl⟩;exact⟨rfl,f.trans a,by rw[uh HR];rfl⟩
 | some q=>
  obtain⟨l,j⟩:=q;have HR:Hid (val s i=some (.num l,j)):=by show _=_;rw[uh m,hn];rfl
  rw[hn]at d;clear hn;go_wp2_with fail;refine (uh d).mono ?_;rintro e u ⟨a,z,rfl,o,K⟩;have C:=ze o;have O:=ze K;have A:=f.trans a;clear d o K;go_wp2;go_ret;refine⟨A,?_⟩;rw[uh HR];refine⟨_,_,rfl,by simp only[zV,zw,Bool.or_false];exact uh C,fun hb _=>?_⟩;rw[zk];exact⟨z,rfl,uh O (by simpa only [zV]using hb)⟩
theorem KB.keep{rb:Nat}{w w':Wo}{S:Nat->Prop}(k:KB rb w w')(hS:∀ b,S b->b<w.heap.size/\b≠rb):∀ b,S b->w'.heap[b]?=w.heap[b]?:=fun b hb=>k.block b (hS b hb).1 (hS b hb).2
theorem M9 (rb:Nat) (s:Bs) (i:Nat) (tb kt:Bool) (w:Wo) (h:zE rb s i tb kt w) (hs:s.size<=100000) (hi:i<=s.size)
  (HB:∀ w1,zE rb s (sk s i) tb kt w1->KB rb w w1->Calls prog 123 #[.pointer (some ⟨rb,0,none⟩)] w1 (J0 rb s tb kt w1 (val s (sk s i)))):
  Calls prog 77 #[.pointer (some ⟨rb,0,none⟩)] w (J0 rb s tb kt w ((val s (sk s i)).map fun q=>(q.1,sk s q.2))):=by
 have D:=h.lt;have m:=ze (UA rb s i tb kt w h (by omega) hi);have g:=ze HB;clear h HB;go_in;go_wp2_with fail;refine (uh m).mono ?_;rintro e w1 ⟨rfl,y,n⟩;have l:=ze (uh g w1 y n);clear m g y
 cases hv:val s (sk s i)with
 | none=>
  rw[hv]at l;have f:=ze hv;clear hv;go_wp2_with fail;refine (uh l).mono ?_;rintro e B ⟨o,rfl⟩;exact⟨rfl,n.trans o,by rw[uh f];rfl⟩
 | some q=>
  obtain⟨v,j⟩:=q;have r:=Y3 hv;rw[hv]at l;have f:=ze hv;clear hv;go_wp2_with fail;refine (uh l).mono ?_;rintro e B E;obtain⟨o,t,p,rfl,z,d⟩:=E;have x:=ze (UA rb s j _ _ B z (by omega) r.2);have k:=ze d;have F:=n.size;have G:=o.size;clear l d z;go_wp2_with fail;refine (uh x).mono ?_;rintro e I ⟨rfl,A,u⟩;have C:=ze A;have H:=u.size;clear x A;go_wp2;go_ret;rw[uh f];exact⟨(n.trans o).trans u,t,p,rfl,uh C,fun a b=>zk.keep (u.keep fun b hb=>⟨hb.2,by omega⟩) (fun b hb=>⟨by omega,by omega⟩) _ _ (uh k a b)⟩
def Yv(s:Bs)(i:Nat):Option ((List UInt8×JV)×Nat):=(Zz s (sk s i)).bind fun k=>if bt s (sk s k.2)=58 then (val s (sk s (sk s k.2+1))).map fun q=>((k.1,q.1),sk s q.2)else none
def zb2(rb b:Nat)(s:Bs)(tb kt:Bool)(xs:List (List UInt8×Value))(nn:Nat)(w:Wo)(o:Option ((List UInt8×JV)×Nat))(e:Ending)(w':Wo):Prop:=
 Jn rb b w w'/\o.elim (e=Js) fun q=>∃ (t:TypeId) (p:Value),e= .returned (.tuple #[])/\zE rb s q.2 (tb || zV q.1.2) ((kt || zw q.1.2) ||(xs.map (·.1)).contains q.1.1) w' /\
  w'.ownsMap prog 9 RH b (nn+1) (zZ (xs++[(q.1.1,.iface t p)]))/\(zV q.1.2=false->zw q.1.2=false->zk w' (fun k=>w.heap.size<=k/\k<w'.heap.size) q.1.2 (.iface t p))
theorem zE.setTwice{rb:Nat}{s:Bs}{i:Nat}{tb kt:Bool}{w:Wo}(h:zE rb s i tb kt w):zE rb s i tb true (w.setCell ⟨rb,3,none⟩ (.bool true)):=heap_setCell_same w rb 3 _ 127 (.bool true) h
theorem zE.twicec{rb:Nat}{s:Bs}{i:Nat}{tb kt:Bool}{w:Wo}(h:zE rb s i tb kt w):w.cell? ⟨rb,3,none⟩=some (.bool kt):=by rw[yG h];rfl
theorem Jn.grown{rb sc:Nat}{a w w':Wo}(h:Jn rb sc a w)(g:w.grownBy w' (some sc)):Jn rb sc a w':=
 ⟨g.os.trans h.os,g.tape.trans h.tape,g.output.trans h.output,yQ h.size g.size,fun i hi h1 h2=>(g.block i (yF hi h.size) (by intro e;injection e with e;exact h2 e)).trans (h.block i hi h1 h2)⟩
theorem Rn(key:List UInt8)(hk:key.length<=1048576):keyOf prog 9 (.string (zh key))=some (.string key):=by
 have:=WideMaps.keyOf_string_mk underlying9 (s:=zh key) (by rw[zN];unfold maxLen;omega)
 rwa [Za]at this
theorem Ta (rb:Nat) (s:Bs) (i:Nat) (tb kt:Bool) (w:Wo) (h:zE rb s i tb kt w) (hs:s.size<=100000) (hi:i<=s.size) (B:Nat) (hT:qL B w) (hB:B<=rb)
  (b nn:Nat) (xs:List (List UInt8×Value)) (hm:w.ownsMap prog 9 RH b nn (zZ xs)) (hbr:rb<b) (hnn:nn<=1048576)
  (HV:∀ (j:Nat) (w1:Wo),i<j->j<=s.size->zE rb s j tb kt w1->KB rb w w1->Calls prog 77 #[.pointer (some ⟨rb,0,none⟩)] w1 (J0 rb s tb kt w1 ((val s (sk s j)).map fun q=>(q.1,sk s q.2)))):
  Calls prog 203 #[.pointer (some ⟨rb,0,none⟩),.map (some b)] w (zb2 rb b s tb kt xs nn w (Yv s i)):=by
 have hlt:=h.lt;have aa:=hm.lt;have G:=ze (UA rb s i tb kt w h (by omega) hi);have HT:=ze hT;have HM:=ze hm;have Q:=ze HV;have k0:=z8 s i;have af:=(Q6 hi).2;have A:Hid (Yv s i=(Zz s (sk s i)).bind fun k=>if bt s (sk s k.2)=58 then (val s (sk s (sk s k.2+1))).map fun q=>((k.1,q.1),sk s q.2)else none):=rfl;clear h hT hm HV;go_in;go_wp2_with fail;refine (uh G).mono ?_;rintro e w1 ⟨rfl,r1,K⟩;have m:=ze (Aw rb s (sk s i) tb kt w1 r1 (by omega) af B ((uh HT).next (K.below hB (by omega)) (ye _)) hB);clear G r1
 cases hq:Zz s (sk s i)with
 | none=>
  rw[hq]at m;have x:Hid (Yv s i=none):=by show _=_;rw[uh A,hq];rfl
  clear hq;go_wp2_with fail;refine (uh m).mono ?_;rintro e w2 ⟨L,rfl⟩;exact⟨rfl,(K.trans L).two b,by rw[uh x];rfl⟩
 | some q=>
  obtain⟨d,a⟩:=q;have J:=JX hq;have hql:=KC hq;have l:Hid (Yv s i=if bt s (sk s a)=58 then (val s (sk s (sk s a+1))).map fun q=>((d,q.1),sk s q.2)else none):=by show _=_;rw[uh A,hq];rfl
  rw[hq]at m;clear hq A;go_wp2_with fail;refine (uh m).mono ?_;rintro e w2 ⟨L,rfl,r2⟩;have F:=ze (UA rb s a tb kt w2 r2 (by omega) J.2);have K2:=ze (K.trans L);have ka0:=z8 s a;have ag:=(Q6 J.2).2;clear m r2 K L;go_wp2_with fail;refine (uh F).mono ?_;rintro e w3 ⟨rfl,r3,k3⟩;have R:=ze ((uh K2).trans k3);have Y:=ze r3;clear F r3 k3 K2;generalize sk s a=E at *;by_cases f:bt s E=58
  ·have ad:E<s.size:=Zb (by omega);have r:=ze (Gx rb s E tb kt w3 (uh Y) (by omega) 58 f ad);rw[yg f]at l;clear f;go_wp2_with fail;refine (uh r).mono ?_;rintro e P ⟨rfl,r4,M⟩;have H:=ze ((uh R).trans M);have HC:=ze (uh Q (E+1) P (by omega) (by omega) r4 (uh H));clear r r4 M R Y
   cases hv:val s (sk s (E+1))with
   | none=>
    rw[hv]at HC;have x:Hid (Yv s i=none):=by show _=_;rw[uh l,hv];rfl
    clear hv;go_wp2_with fail;refine (uh HC).mono ?_;rintro e g ⟨N,rfl⟩;exact⟨rfl,((uh H).trans N).two b,by rw[uh x];rfl⟩
   | some q=>
    obtain⟨v,n⟩:=q;rw[hv]at HC;have x:Hid (Yv s i=some ((d,v),sk s n)):=by show _=_;rw[uh l,hv];rfl
    clear hv l;go_wp2_with fail;refine (uh HC).mono ?_;rintro e g ⟨N,t,p,rfl,O,z⟩;have T:=ze ((uh H).trans N);have hs4:=(uh H).size;have hs5:=N.size;have V:=ze (YR (uh HM) ((uh T).block b aa (by omega)));obtain⟨v0,I,_⟩:=Rg (uh V) d (by omega);have y:=ze z;have R5:=ze O;have c3:=O.twicec;have f3:=O.fz 3;have HH:=ze (FC d xs);clear HC O z H HM;have u:=ze (Rn d (by omega))
    cases hl:(Je xs d).isSome with
    | true=>
     rw[hl]at I;have M6:=ze (YR (w':=g.setCell ⟨rb,3,none⟩ (.bool true)) (uh V) (Below.heap_setCell g ⟨rb,3,none⟩ (.bool true) b (by show b≠rb;omega)));have R6:=ze (uh R5).setTwice;go_wp2_with (refine wpList_mapUpdate_own _ rfl (.tmp 30) (.tmp 31) (.tmp 32) 172 rfl 9 61 (Maps.string_keyed underlying9) underlying172 RH b nn (zZ xs) rfl (uh M6) (by unfold maxLen;omega) _ _ (.string d) rfl rfl (uh u) (.held (.iface t p)) [] rfl ?_;intro D C o);have ab:=o.size;have Z:zE rb s (sk s n) (tb || zV v) ((kt || zw v) ||(xs.map (·.1)).contains d) D:=by
      rw[← uh HH,hl];refine (o.block rb ?_ (by intro e;injection e with e;omega)).trans ?_
      ·show rb<(g.setCell _ _).heap.size;simp[World.setCell];omega
      ·rw[Bool.or_true];exact uh R6
     have X:zV v=false->zw v=false->zk D (fun k=>w.heap.size<=k/\k<D.heap.size) v (.iface t p):=fun a b'=>by
      refine zk.keep (w:=g) (S:=fun k=>P.heap.size<=k/\k<g.heap.size) (fun k hk=>?_) (fun k hk=>?_) v _ (uh y a b')
      ·exact (o.block k (by simp[World.setCell];omega) (by intro e;injection e with e;omega)).trans (Below.heap_setCell g ⟨rb,3,none⟩ (.bool true) k (by show k≠rb;omega))
      ·have h9:(g.setCell ⟨rb,3,none⟩ (.bool true)).heap.size=g.heap.size:=by simp[World.setCell]
       exact⟨by omega,by omega⟩
     rw[← Ga]at C;have W:=ze C;have U:=ze ((((uh T).set 3 (.bool true)).two b).grown o);clear C o;go_end0;refine⟨uh U,?_⟩;rw[uh x];exact⟨t,p,rfl,Z,uh W,X⟩
    | false=>
     rw[hl]at I;go_wp2_with (refine wpList_mapUpdate_own _ rfl (.tmp 30) (.tmp 31) (.tmp 32) 172 rfl 9 61 (Maps.string_keyed underlying9) underlying172 RH b nn (zZ xs) rfl (uh V) (by unfold maxLen;omega) _ _ (.string d) rfl rfl (uh u) (.held (.iface t p)) [] rfl ?_;intro D C o);have ab:=o.size;have Z:zE rb s (sk s n) (tb || zV v) ((kt || zw v) ||(xs.map (·.1)).contains d) D:=by
      rw[← uh HH,hl];refine (o.block rb ?_ (by intro e;injection e with e;omega)).trans ?_
      ·show rb<g.heap.size;omega
      ·rw[Bool.or_false];exact uh R5
     have X:zV v=false->zw v=false->zk D (fun k=>w.heap.size<=k/\k<D.heap.size) v (.iface t p):=fun a b'=>by
      refine zk.keep (w:=g) (S:=fun k=>P.heap.size<=k/\k<g.heap.size) (fun k hk=>?_) (fun k hk=>?_) v _ (uh y a b')
      ·exact o.block k (by omega) (by intro e;injection e with e;omega)
      ·have h9:True:=trivial;exact⟨by omega,by omega⟩
     rw[← Ga]at C;have W:=ze C;have U:=ze (((uh T).two b).grown o);clear C o;go_end0;refine⟨uh U,?_⟩;rw[uh x];exact⟨t,p,rfl,Z,uh W,X⟩
  ·have r:=ze (Kv rb s E tb kt w3 (uh Y) (by omega) ag 58 (.inl f));have x:Hid (Yv s i=none):=by show _=_;rw[uh l,yf f]
   clear f;go_wp2_with fail;refine (uh r).mono ?_;rintro e P ⟨rfl,M⟩;exact⟨rfl,((uh R).trans M).two b,by rw[uh x];rfl⟩
theorem Tb(s:Bs)(i:Nat):sk s (sk s i)=sk s i:=Kw (zbc s i)
theorem Ro:(prog.info? 61).map (fun i=>(i.zero,i.size,i.bytes))=some (some .nilIface,1,16):=by kernel_rfl
theorem GG(w:Wo)(o:Obj):Bw w (w.alloc o):=(yI _ _).alloc (ye _) _
abbrev Yw(sv:Value):Obj:=.cells #[sv] 105 (0,0)
end Go.Proofs.YtpaecnbdoljafaaGreatDoor
