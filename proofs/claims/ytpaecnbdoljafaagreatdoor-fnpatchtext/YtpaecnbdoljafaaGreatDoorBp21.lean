import Derived.Test.YtpaecnbdoljafaaGreatDoorBp20
import Derived.Test.YtpaecnbdoljafaaGreatDoorBp18
set_option maxRecDepth 100000
set_option maxHeartbeats 8000000
namespace Go.Proofs.YtpaecnbdoljafaaGreatDoor
open Go.RowKit Go.Proofs.Tryz
theorem Q1.from{rb:Nat}{s:Bs}{tb kt:Bool}{w w1 w':Wo}{o:Option (JV×Nat)}{e:Ending}(k:KB rb w w1)(h:Q1 rb s tb kt w1 o e w'):Q1 rb s tb kt w o e w':=by
 obtain⟨g,f⟩:=h;refine⟨k.trans g,?_⟩
 cases o with
 | none=>exact f
 | some q=>
  obtain⟨t,p,i,j,d⟩:=f;exact⟨t,p,i,j,fun a b=>zl.keep (fun _ _=>rfl) (fun k' hk=>⟨yO k.size hk.1,hk.2⟩) _ _ (d a b)⟩
theorem SF(s:Bs)(i:Nat):WL s i ⟨#[110,117,108,108]⟩↔Ql s i=true:=by
 unfold Ql;simp only[Bool.and_eq_true,yB];constructor
 ·intro h;exact⟨⟨⟨h 0 (by decide),h 1 (by decide)⟩,h 2 (by decide)⟩,h 3 (by decide)⟩
 ·rintro⟨⟨⟨a,b⟩,d⟩,f⟩ k g;have j:k<4:=g;rcases (show k=0∨k=1∨k=2∨k=3 by omega)with rfl | rfl | rfl | rfl
  ·exact a
  ·exact b
  ·exact d
  ·exact f
theorem SG(s:Bs)(i:Nat):WL s i ⟨#[116,114,117,101]⟩↔Qw s i=true:=by
 unfold Qw;simp only[Bool.and_eq_true,yB];constructor
 ·intro h;exact⟨⟨⟨h 0 (by decide),h 1 (by decide)⟩,h 2 (by decide)⟩,h 3 (by decide)⟩
 ·rintro⟨⟨⟨a,b⟩,d⟩,f⟩ k g;have j:k<4:=g;rcases (show k=0∨k=1∨k=2∨k=3 by omega)with rfl | rfl | rfl | rfl
  ·exact a
  ·exact b
  ·exact d
  ·exact f
theorem SH(s:Bs)(i:Nat):WL s i ⟨#[102,97,108,115,101]⟩↔QP s i=true:=by
 unfold QP;simp only[Bool.and_eq_true,yB];constructor
 ·intro h;exact⟨⟨⟨⟨h 0 (by decide),h 1 (by decide)⟩,h 2 (by decide)⟩,h 3 (by decide)⟩,h 4 (by decide)⟩
 ·rintro⟨⟨⟨⟨a,b⟩,d⟩,f⟩,g⟩ k j;have l:k<5:=j;rcases (show k=0∨k=1∨k=2∨k=3∨k=4 by omega)with rfl | rfl | rfl | rfl | rfl
  ·exact a
  ·exact b
  ·exact d
  ·exact f
  ·exact g
theorem Oe{s:Bs}{i:Nat}(h45:bt s i≠45)(h:¬ zT (bt s i)=true):nm s i=none:=by
 unfold nm;rw[show zK s i=i by unfold zK;rw[ye h45],ye h]
theorem Of{s:Bs}{i:Nat}(h:Ql s i=true):bt s i=110:=by simp[Ql]at h;exact h.1.1.1
theorem Og{s:Bs}{i:Nat}(h:Qw s i=true):bt s i=116:=by simp[Qw]at h;exact h.1.1.1
theorem Oh{s:Bs}{i:Nat}(h:QP s i=true):bt s i=102:=by simp[QP]at h;exact h.1.1.1.1
theorem Cw{s:Bs}{i:Nat}(h:bt s i=110):val s i=if Ql s i=true then some (.nul,i+4)else none:=by
 rw[Y6 (by omega) (by omega) (by omega)];split
 ·rfl
 ·rw[ye (fun g=>by have:=Og g;omega),ye (fun g=>by have:=Oh g;omega),Oe (by omega) (by rw[h];decide)];rfl
theorem Cx{s:Bs}{i:Nat}(h:bt s i=116):val s i=if Qw s i=true then some (.tt,i+4)else none:=by
 rw[Y6 (by omega) (by omega) (by omega),ye (fun g=>by have:=Of g;omega)];split
 ·rfl
 ·rw[ye (fun g=>by have:=Oh g;omega),Oe (by omega) (by rw[h];decide)];rfl
theorem Cy{s:Bs}{i:Nat}(h:bt s i=102):val s i=if QP s i=true then some (.ff,i+5)else none:=by
 rw[Y6 (by omega) (by omega) (by omega),ye (fun g=>by have:=Of g;omega),ye (fun g=>by have:=Og g;omega)];split
 ·rfl
 ·rw[Oe (by omega) (by rw[h];decide)];rfl
theorem Cz{s:Bs}{i:Nat}(h1:bt s i≠91)(h2:bt s i≠123)(h3:bt s i≠34)(h4:bt s i≠110)(h5:bt s i≠116)(h6:bt s i≠102):val s i=(nm s i).map fun q=>(.num q.1,q.2):=by
 rw[Y6 h1 h2 h3,ye (fun g=>h4 (Of g)),ye (fun g=>h5 (Og g)),ye (fun g=>h6 (Oh g))]
theorem SI (rb:Nat) (s:Bs) (i:Nat) (tb kt:Bool) (w:Wo) (h:zr rb s i tb kt w) (hs:s.size<=100000) (hi:i<=s.size) (B:Nat) (hT:qc B w) (hE:q8 B w) (hB:B<=rb)
  (HA:∀ w1,zr rb s i tb kt w1->KB rb w w1->bt s i=91->Calls prog 168 #[.pointer (some ⟨rb,0,none⟩)] w1 (Q1 rb s tb kt w1 (val s i)))
  (HO:∀ w1,zr rb s i tb kt w1->KB rb w w1->bt s i=123->Calls prog 169 #[.pointer (some ⟨rb,0,none⟩)] w1 (Q1 rb s tb kt w1 (val s i))):
  Calls prog 123 #[.pointer (some ⟨rb,0,none⟩)] w (Q1 rb s tb kt w (val s i)):=by
 have Q:=h.lt;have K:=zh (FH rb s i tb kt w h hi);have x:=zh HA;have y:=zh HO;have O:=zh hT;have N:=zh hE;clear h HA HO hT hE;go_in;go_wp2_with fail;refine (uh K).mono ?_;rintro e w1 ⟨rfl,M,f⟩;have v:=zh M;clear K M;by_cases r:bt s i=110
 ·have I:((bt s i:Int) ==110)=true:=by rw[yB];omega
  have m:=zh (Cw r)
  cases hw:Ql s i with
  | true=>
   have n:=zh (Xy rb s i tb kt w1 (uh v) (by omega) ⟨#[110,117,108,108]⟩ (by decide) (Wu hw) ((SF s i).2 hw));have HR:Hid (val s i=some (.nul,i+4)):=by show _=_;rw[uh m,yf hw]
   clear r hw;go_wp2_with fail;refine (uh n).mono ?_;rintro e u ⟨rfl,o,a⟩;have C:=zh o;have A:=f.trans a;clear n o;go_wp2;go_ret;refine⟨A,?_⟩;rw[uh HR];exact⟨_,_,rfl,by simp only[zD,zw,Bool.or_false];exact uh C,fun _ _=>by rw[zl]⟩
  | false=>
   have n:=zh (Xz rb s i tb kt w1 (uh v) (by omega) ⟨#[110,117,108,108]⟩ (by decide) (by decide) hi (fun g=>by rw[(SF s i).1 g]at hw;cases hw));have HR:Hid (val s i=none):=by show _=_;rw[uh m,ye (by rw[hw];simp)]
   clear r hw;go_wp2_with fail;refine (uh n).mono ?_;rintro e u ⟨rfl,a⟩;exact⟨rfl,f.trans a,by rw[uh HR];rfl⟩
 have R:((bt s i:Int) ==110)=false:=by rw[yb];omega
 by_cases b:bt s i=116
 ·have I:((bt s i:Int) ==116)=true:=by rw[yB];omega
  have m:=zh (Cx b)
  cases hw:Qw s i with
  | true=>
   have n:=zh (Xy rb s i tb kt w1 (uh v) (by omega) ⟨#[116,114,117,101]⟩ (by decide) (Wv hw) ((SG s i).2 hw));have HR:Hid (val s i=some (.tt,i+4)):=by show _=_;rw[uh m,yf hw]
   clear r b hw;go_wp2_with fail;refine (uh n).mono ?_;rintro e u ⟨rfl,o,a⟩;have C:=zh o;have A:=f.trans a;clear n o;go_wp2;go_ret;refine⟨A,?_⟩;rw[uh HR];exact⟨_,_,rfl,by simp only[zD,zw,Bool.or_false];exact uh C,fun _ _=>by rw[zl]⟩
  | false=>
   have n:=zh (Xz rb s i tb kt w1 (uh v) (by omega) ⟨#[116,114,117,101]⟩ (by decide) (by decide) hi (fun g=>by rw[(SG s i).1 g]at hw;cases hw));have HR:Hid (val s i=none):=by show _=_;rw[uh m,ye (by rw[hw];simp)]
   clear r b hw;go_wp2_with fail;refine (uh n).mono ?_;rintro e u ⟨rfl,a⟩;exact⟨rfl,f.trans a,by rw[uh HR];rfl⟩
 have S:((bt s i:Int) ==116)=false:=by rw[yb];omega
 by_cases D:bt s i=102
 ·have I:((bt s i:Int) ==102)=true:=by rw[yB];omega
  have m:=zh (Cy D)
  cases hw:QP s i with
  | true=>
   have n:=zh (Xy rb s i tb kt w1 (uh v) (by omega) ⟨#[102,97,108,115,101]⟩ (by decide) (Un hw) ((SH s i).2 hw));have HR:Hid (val s i=some (.ff,i+5)):=by show _=_;rw[uh m,yf hw]
   clear r b D hw;go_wp2_with fail;refine (uh n).mono ?_;rintro e u ⟨rfl,o,a⟩;have C:=zh o;have A:=f.trans a;clear n o;go_wp2;go_ret;refine⟨A,?_⟩;rw[uh HR];exact⟨_,_,rfl,by simp only[zD,zw,Bool.or_false];exact uh C,fun _ _=>by rw[zl]⟩
  | false=>
   have n:=zh (Xz rb s i tb kt w1 (uh v) (by omega) ⟨#[102,97,108,115,101]⟩ (by decide) (by decide) hi (fun g=>by rw[(SH s i).1 g]at hw;cases hw));have HR:Hid (val s i=none):=by show _=_;rw[uh m,ye (by rw[hw];simp)]
   clear r b D hw;go_wp2_with fail;refine (uh n).mono ?_;rintro e u ⟨rfl,a⟩;exact⟨rfl,f.trans a,by rw[uh HR];rfl⟩
 have T:((bt s i:Int) ==102)=false:=by rw[yb];omega
 by_cases F:bt s i=34
 ·have I:((bt s i:Int) ==34)=true:=by rw[yB];omega
  have m:=zh (FT F);have d:=zh (Mk rb s i tb kt w1 (uh v) (by omega) hi B ((uh O).next (f.below hB (by omega)) (yd _)) hB)
  cases hq:Zq s i with
  | none=>
   have HR:Hid (val s i=none):=by show _=_;rw[uh m,hq];rfl
   rw[hq]at d;clear r b D F hq;go_wp2_with fail;refine (uh d).mono ?_;rintro e u ⟨a,rfl⟩;exact⟨rfl,f.trans a,by rw[uh HR];rfl⟩
  | some q=>
   obtain⟨l,j⟩:=q;have HR:Hid (val s i=some (.str l,j)):=by show _=_;rw[uh m,hq];rfl
   rw[hq]at d;clear r b D F hq;go_wp2_with fail;refine (uh d).mono ?_;rintro e u ⟨a,rfl,o⟩;have C:=zh o;have A:=f.trans a;clear d o;go_wp2;go_ret;refine⟨A,?_⟩;rw[uh HR];exact⟨_,_,rfl,by simp only[zD,zw,Bool.or_false];exact uh C,fun _ _=>by rw[zl]⟩
 have U:((bt s i:Int) ==34)=false:=by rw[yb];omega
 by_cases G:bt s i=91
 ·have I:((bt s i:Int) ==91)=true:=by rw[yB];omega
  have d:=zh (uh x _ (uh v) f G);clear r b D F G x y
  cases hv:val s i with
  | none=>
   rw[hv]at d;have k:=zh hv;clear hv;go_wp2_with fail;refine (uh d).mono ?_;rintro e u ⟨a,rfl⟩;exact⟨rfl,f.trans a,by rw[uh k];rfl⟩
  | some q=>
   rw[hv]at d;have k:=zh hv;clear hv;go_wp2_with fail;refine (uh d).mono ?_;rintro e u H;have E:=zh (H.from f);obtain⟨a,t,p,rfl,_,_⟩:=H;go_wp2;go_ret;rw[uh k];exact uh E
 have V:((bt s i:Int) ==91)=false:=by rw[yb];omega
 by_cases J:bt s i=123
 ·have I:((bt s i:Int) ==123)=true:=by rw[yB];omega
  have d:=zh (uh y _ (uh v) f J);clear r b D F G J x y
  cases hv:val s i with
  | none=>
   rw[hv]at d;have k:=zh hv;clear hv;go_wp2_with fail;refine (uh d).mono ?_;rintro e u ⟨a,rfl⟩;exact⟨rfl,f.trans a,by rw[uh k];rfl⟩
  | some q=>
   rw[hv]at d;have k:=zh hv;clear hv;go_wp2_with fail;refine (uh d).mono ?_;rintro e u H;have E:=zh (H.from f);obtain⟨a,t,p,rfl,_,_⟩:=H;go_wp2;go_ret;rw[uh k];exact uh E
 have W:((bt s i:Int) ==123)=false:=by rw[yb];omega
 have m:=zh (Cz G J F r b D);have d:=zh (Cv rb s i tb kt w1 (uh v) hs hi B ((uh N).next (f.below hB (by omega)) (yd _)) hB);clear r b D F G J x y
 cases hn:nm s i with
 | none=>
  have HR:Hid (val s i=none):=by show _=_;rw[uh m,hn];rfl
  rw[hn]at d;clear hn;go_wp2_with fail;refine (uh d).mono ?_;rintro e u ⟨a,rfl⟩;exact⟨rfl,f.trans a,by rw[uh HR];rfl⟩
 | some q=>
  obtain⟨l,j⟩:=q;have HR:Hid (val s i=some (.num l,j)):=by show _=_;rw[uh m,hn];rfl
  rw[hn]at d;clear hn;go_wp2_with fail;refine (uh d).mono ?_;rintro e u ⟨a,z,rfl,o,L⟩;have C:=zh o;have P:=zh L;have A:=f.trans a;clear d o L;go_wp2;go_ret;refine⟨A,?_⟩;rw[uh HR];refine⟨_,_,rfl,by simp only[zD,zw,Bool.or_false];exact uh C,fun hb _=>?_⟩;rw[zl];exact⟨z,rfl,uh P (by simpa only [zD]using hb)⟩
theorem KB.keep{rb:Nat}{w w':Wo}{S:Nat->Prop}(k:KB rb w w')(hS:∀ b,S b->b<w.heap.size/\b≠rb):∀ b,S b->w'.heap[b]?=w.heap[b]?:=fun b hb=>k.block b (hS b hb).1 (hS b hb).2
theorem SJ (rb:Nat) (s:Bs) (i:Nat) (tb kt:Bool) (w:Wo) (h:zr rb s i tb kt w) (hs:s.size<=100000) (hi:i<=s.size)
  (HB:∀ w1,zr rb s (sk s i) tb kt w1->KB rb w w1->Calls prog 123 #[.pointer (some ⟨rb,0,none⟩)] w1 (Q1 rb s tb kt w1 (val s (sk s i)))):
  Calls prog 77 #[.pointer (some ⟨rb,0,none⟩)] w (Q1 rb s tb kt w ((val s (sk s i)).map fun q=>(q.1,sk s q.2))):=by
 have D:=h.lt;have m:=zh (Wr rb s i tb kt w h (by omega) hi);have g:=zh HB;clear h HB;go_in;go_wp2_with fail;refine (uh m).mono ?_;rintro e w1 ⟨rfl,y,n⟩;have l:=zh (uh g w1 y n);clear m g y
 cases hv:val s (sk s i)with
 | none=>
  rw[hv]at l;have f:=zh hv;clear hv;go_wp2_with fail;refine (uh l).mono ?_;rintro e B ⟨o,rfl⟩;exact⟨rfl,n.trans o,by rw[uh f];rfl⟩
 | some q=>
  obtain⟨v,j⟩:=q;have r:=Yj hv;rw[hv]at l;have f:=zh hv;clear hv;go_wp2_with fail;refine (uh l).mono ?_;rintro e B E;obtain⟨o,t,p,rfl,z,d⟩:=E;have x:=zh (Wr rb s j _ _ B z (by omega) r.2);have k:=zh d;have F:=n.size;have G:=o.size;clear l d z;go_wp2_with fail;refine (uh x).mono ?_;rintro e I ⟨rfl,A,u⟩;have C:=zh A;have H:=u.size;clear x A;go_wp2;go_ret;rw[uh f];exact⟨(n.trans o).trans u,t,p,rfl,uh C,fun a b=>zl.keep (u.keep fun b hb=>⟨hb.2,by omega⟩) (fun b hb=>⟨by omega,by omega⟩) _ _ (uh k a b)⟩
def JI(s:Bs)(i:Nat):Option ((List UInt8×JV)×Nat):=(Zq s (sk s i)).bind fun k=>if bt s (sk s k.2)=58 then (val s (sk s (sk s k.2+1))).map fun q=>((k.1,q.1),sk s q.2)else none
def CA(rb b:Nat)(s:Bs)(tb kt:Bool)(xs:List (List UInt8×Value))(nn:Nat)(w:Wo)(o:Option ((List UInt8×JV)×Nat))(e:Ending)(w':Wo):Prop:=
 QG rb b w w'/\o.elim (e=QN) fun q=>∃ (t:TypeId) (p:Value),e= .returned (.tuple #[])/\zr rb s q.2 (tb || zD q.1.2) ((kt || zw q.1.2) ||(xs.map (·.1)).contains q.1.1) w' /\
  w'.ownsMap prog 9 RH b (nn+1) (ZE (xs++[(q.1.1,.iface t p)]))/\(zD q.1.2=false->zw q.1.2=false->zl w' (fun k=>w.heap.size<=k/\k<w'.heap.size) q.1.2 (.iface t p))
theorem zr.setTwice{rb:Nat}{s:Bs}{i:Nat}{tb kt:Bool}{w:Wo}(h:zr rb s i tb kt w):zr rb s i tb true (w.setCell ⟨rb,3,none⟩ (.bool true)):=heap_setCell_same w rb 3 _ 127 (.bool true) h
theorem zr.twicec{rb:Nat}{s:Bs}{i:Nat}{tb kt:Bool}{w:Wo}(h:zr rb s i tb kt w):w.cell? ⟨rb,3,none⟩=some (.bool kt):=by rw[yE h];rfl
theorem QG.grown{rb sc:Nat}{a w w':Wo}(h:QG rb sc a w)(g:w.grownBy w' (some sc)):QG rb sc a w':=
 ⟨g.os.trans h.os,g.tape.trans h.tape,g.output.trans h.output,yO h.size g.size,fun i hi h1 h2=>(g.block i (yD hi h.size) (by intro e;injection e with e;exact h2 e)).trans (h.block i hi h1 h2)⟩
theorem SK(key:List UInt8)(hk:key.length<=1048576):keyOf prog 9 (.string (zi key))=some (.string key):=by
 have:=WideMaps.keyOf_string_mk underlying9 (s:=zi key) (by rw[zS];unfold maxLen;omega)
 rwa [Zd]at this
theorem SL (rb:Nat) (s:Bs) (i:Nat) (tb kt:Bool) (w:Wo) (h:zr rb s i tb kt w) (hs:s.size<=100000) (hi:i<=s.size) (B:Nat) (hT:qc B w) (hB:B<=rb)
  (b nn:Nat) (xs:List (List UInt8×Value)) (hm:w.ownsMap prog 9 RH b nn (ZE xs)) (hbr:rb<b) (hnn:nn<=1048576)
  (HV:∀ (j:Nat) (w1:Wo),i<j->j<=s.size->zr rb s j tb kt w1->KB rb w w1->Calls prog 77 #[.pointer (some ⟨rb,0,none⟩)] w1 (Q1 rb s tb kt w1 ((val s (sk s j)).map fun q=>(q.1,sk s q.2)))):
  Calls prog 203 #[.pointer (some ⟨rb,0,none⟩),.map (some b)] w (CA rb b s tb kt xs nn w (JI s i)):=by
 have hlt:=h.lt;have aa:=hm.lt;have G:=zh (Wr rb s i tb kt w h (by omega) hi);have HT:=zh hT;have HM:=zh hm;have Q:=zh HV;have k0:=zO s i;have af:=(Qu hi).2;have A:Hid (JI s i=(Zq s (sk s i)).bind fun k=>if bt s (sk s k.2)=58 then (val s (sk s (sk s k.2+1))).map fun q=>((k.1,q.1),sk s q.2)else none):=rfl;clear h hT hm HV;go_in;go_wp2_with fail;refine (uh G).mono ?_;rintro e w1 ⟨rfl,r1,K⟩;have m:=zh (Mk rb s (sk s i) tb kt w1 r1 (by omega) af B ((uh HT).next (K.below hB (by omega)) (yd _)) hB);clear G r1
 cases hq:Zq s (sk s i)with
 | none=>
  rw[hq]at m;have x:Hid (JI s i=none):=by show _=_;rw[uh A,hq];rfl
  clear hq;go_wp2_with fail;refine (uh m).mono ?_;rintro e w2 ⟨L,rfl⟩;exact⟨rfl,(K.trans L).two b,by rw[uh x];rfl⟩
 | some q=>
  obtain⟨d,a⟩:=q;have J:=Js hq;have hql:=Ur hq;have l:Hid (JI s i=if bt s (sk s a)=58 then (val s (sk s (sk s a+1))).map fun q=>((d,q.1),sk s q.2)else none):=by show _=_;rw[uh A,hq];rfl
  rw[hq]at m;clear hq A;go_wp2_with fail;refine (uh m).mono ?_;rintro e w2 ⟨L,rfl,r2⟩;have F:=zh (Wr rb s a tb kt w2 r2 (by omega) J.2);have K2:=zh (K.trans L);have ka0:=zO s a;have ag:=(Qu J.2).2;clear m r2 K L;go_wp2_with fail;refine (uh F).mono ?_;rintro e w3 ⟨rfl,r3,k3⟩;have R:=zh ((uh K2).trans k3);have Y:=zh r3;clear F r3 k3 K2;generalize sk s a=E at *;by_cases f:bt s E=58
  ·have ad:E<s.size:=zQ (by omega);have r:=zh (Vs rb s E tb kt w3 (uh Y) (by omega) 58 f ad);rw[yf f]at l;clear f;go_wp2_with fail;refine (uh r).mono ?_;rintro e P ⟨rfl,r4,M⟩;have H:=zh ((uh R).trans M);have HC:=zh (uh Q (E+1) P (by omega) (by omega) r4 (uh H));clear r r4 M R Y
   cases hv:val s (sk s (E+1))with
   | none=>
    rw[hv]at HC;have x:Hid (JI s i=none):=by show _=_;rw[uh l,hv];rfl
    clear hv;go_wp2_with fail;refine (uh HC).mono ?_;rintro e g ⟨N,rfl⟩;exact⟨rfl,((uh H).trans N).two b,by rw[uh x];rfl⟩
   | some q=>
    obtain⟨v,n⟩:=q;rw[hv]at HC;have x:Hid (JI s i=some ((d,v),sk s n)):=by show _=_;rw[uh l,hv];rfl
    clear hv l;go_wp2_with fail;refine (uh HC).mono ?_;rintro e g ⟨N,t,p,rfl,O,z⟩;have T:=zh ((uh H).trans N);have hs4:=(uh H).size;have hs5:=N.size;have V:=zh (Vr (uh HM) ((uh T).block b aa (by omega)));obtain⟨v0,I,_⟩:=Rr (uh V) d (by omega);have y:=zh z;have R5:=zh O;have c3:=O.twicec;have f3:=O.fz 3;have HH:=zh (Rq d xs);clear HC O z H HM;have u:=zh (SK d (by omega))
    cases hl:(Q4 xs d).isSome with
    | true=>
     rw[hl]at I;have M6:=zh (Vr (w':=g.setCell ⟨rb,3,none⟩ (.bool true)) (uh V) (Below.heap_setCell g ⟨rb,3,none⟩ (.bool true) b (by show b≠rb;omega)));have R6:=zh (uh R5).setTwice;go_wp2_with (refine wpList_mapUpdate_own _ rfl (.tmp 30) (.tmp 31) (.tmp 32) 172 rfl 9 61 (Maps.string_keyed underlying9) underlying172 RH b nn (ZE xs) rfl (uh M6) (by unfold maxLen;omega) _ _ (.string d) rfl rfl (uh u) (.held (.iface t p)) [] rfl ?_;intro D C o);have ab:=o.size;have Z:zr rb s (sk s n) (tb || zD v) ((kt || zw v) ||(xs.map (·.1)).contains d) D:=by
      rw[← uh HH,hl];refine (o.block rb ?_ (by intro e;injection e with e;omega)).trans ?_
      ·show rb<(g.setCell _ _).heap.size;simp[World.setCell];omega
      ·rw[Bool.or_true];exact uh R6
     have X:zD v=false->zw v=false->zl D (fun k=>w.heap.size<=k/\k<D.heap.size) v (.iface t p):=fun a b'=>by
      refine zl.keep (w:=g) (S:=fun k=>P.heap.size<=k/\k<g.heap.size) (fun k hk=>?_) (fun k hk=>?_) v _ (uh y a b')
      ·exact (o.block k (by simp[World.setCell];omega) (by intro e;injection e with e;omega)).trans (Below.heap_setCell g ⟨rb,3,none⟩ (.bool true) k (by show k≠rb;omega))
      ·have h9:(g.setCell ⟨rb,3,none⟩ (.bool true)).heap.size=g.heap.size:=by simp[World.setCell]
       exact⟨by omega,by omega⟩
     rw[← Wp]at C;have W:=zh C;have U:=zh ((((uh T).set 3 (.bool true)).two b).grown o);clear C o;go_end0;refine⟨uh U,?_⟩;rw[uh x];exact⟨t,p,rfl,Z,uh W,X⟩
    | false=>
     rw[hl]at I;go_wp2_with (refine wpList_mapUpdate_own _ rfl (.tmp 30) (.tmp 31) (.tmp 32) 172 rfl 9 61 (Maps.string_keyed underlying9) underlying172 RH b nn (ZE xs) rfl (uh V) (by unfold maxLen;omega) _ _ (.string d) rfl rfl (uh u) (.held (.iface t p)) [] rfl ?_;intro D C o);have ab:=o.size;have Z:zr rb s (sk s n) (tb || zD v) ((kt || zw v) ||(xs.map (·.1)).contains d) D:=by
      rw[← uh HH,hl];refine (o.block rb ?_ (by intro e;injection e with e;omega)).trans ?_
      ·show rb<g.heap.size;omega
      ·rw[Bool.or_false];exact uh R5
     have X:zD v=false->zw v=false->zl D (fun k=>w.heap.size<=k/\k<D.heap.size) v (.iface t p):=fun a b'=>by
      refine zl.keep (w:=g) (S:=fun k=>P.heap.size<=k/\k<g.heap.size) (fun k hk=>?_) (fun k hk=>?_) v _ (uh y a b')
      ·exact o.block k (by omega) (by intro e;injection e with e;omega)
      ·have h9:True:=trivial;exact⟨by omega,by omega⟩
     rw[← Wp]at C;have W:=zh C;have U:=zh (((uh T).two b).grown o);clear C o;go_end0;refine⟨uh U,?_⟩;rw[uh x];exact⟨t,p,rfl,Z,uh W,X⟩
  ·have r:=zh (Uj rb s E tb kt w3 (uh Y) (by omega) ag 58 (.inl f));have x:Hid (JI s i=none):=by show _=_;rw[uh l,ye f]
   clear f;go_wp2_with fail;refine (uh r).mono ?_;rintro e P ⟨rfl,M⟩;exact⟨rfl,((uh R).trans M).two b,by rw[uh x];rfl⟩
theorem SM(s:Bs)(i:Nat):sk s (sk s i)=sk s i:=Uk (BD s i)
theorem SN:(prog.info? 61).map (fun i=>(i.zero,i.size,i.bytes))=some (some .nilIface,1,16):=by kernel_rfl
theorem VA(w:Wo)(o:Obj):Bw w (w.alloc o):=(yG _ _).alloc (yd _) _
abbrev JJ(sv:Value):Obj:=.cells #[sv] 105 (0,0)
end Go.Proofs.YtpaecnbdoljafaaGreatDoor
