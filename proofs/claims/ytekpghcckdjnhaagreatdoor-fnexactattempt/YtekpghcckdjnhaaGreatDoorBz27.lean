import Derived.Test.YtekpghcckdjnhaaGreatDoorBz21
import Derived.Test.YtekpghcckdjnhaaGreatDoorBz9
set_option maxRecDepth 100000
set_option maxHeartbeats 8000000
namespace Go.Proofs.YtekpghcckdjnhaaGreatDoor
open Go.RowKit Go.Proofs.Tryz
theorem JR.from{rb:Nat}{s:Bs}{tb kt:Bool}{w w1 w':Wo}{o:Option (JV×Nat)}{e:Ending}(k:KB rb w w1)(h:JR rb s tb kt w1 o e w'):JR rb s tb kt w o e w':=by
 obtain⟨g,f⟩:=h;refine⟨k.trans g,?_⟩
 cases o with
 | none=>exact f
 | some q=>
  obtain⟨t,p,i,j,d⟩:=f;exact⟨t,p,i,j,fun a b=>zi.keep (fun _ _=>rfl) (fun k' hk=>⟨yP k.size hk.1,hk.2⟩) _ _ (d a b)⟩
theorem Ll(s:Bs)(i:Nat):UJ s i ⟨#[110,117,108,108]⟩↔QK s i=true:=by
 unfold QK;simp only[Bool.and_eq_true,yC];constructor
 ·intro h;exact⟨⟨⟨h 0 (by decide),h 1 (by decide)⟩,h 2 (by decide)⟩,h 3 (by decide)⟩
 ·rintro⟨⟨⟨a,b⟩,d⟩,f⟩ k g;have j:k<4:=g;rcases (show k=0∨k=1∨k=2∨k=3 by omega)with rfl | rfl | rfl | rfl
  ·exact a
  ·exact b
  ·exact d
  ·exact f
theorem Lm(s:Bs)(i:Nat):UJ s i ⟨#[116,114,117,101]⟩↔QX s i=true:=by
 unfold QX;simp only[Bool.and_eq_true,yC];constructor
 ·intro h;exact⟨⟨⟨h 0 (by decide),h 1 (by decide)⟩,h 2 (by decide)⟩,h 3 (by decide)⟩
 ·rintro⟨⟨⟨a,b⟩,d⟩,f⟩ k g;have j:k<4:=g;rcases (show k=0∨k=1∨k=2∨k=3 by omega)with rfl | rfl | rfl | rfl
  ·exact a
  ·exact b
  ·exact d
  ·exact f
theorem Ln(s:Bs)(i:Nat):UJ s i ⟨#[102,97,108,115,101]⟩↔Ji s i=true:=by
 unfold Ji;simp only[Bool.and_eq_true,yC];constructor
 ·intro h;exact⟨⟨⟨⟨h 0 (by decide),h 1 (by decide)⟩,h 2 (by decide)⟩,h 3 (by decide)⟩,h 4 (by decide)⟩
 ·rintro⟨⟨⟨⟨a,b⟩,d⟩,f⟩,g⟩ k j;have l:k<5:=j;rcases (show k=0∨k=1∨k=2∨k=3∨k=4 by omega)with rfl | rfl | rfl | rfl | rfl
  ·exact a
  ·exact b
  ·exact d
  ·exact f
  ·exact g
theorem Nv{s:Bs}{i:Nat}(h45:bt s i≠45)(h:¬ zI (bt s i)=true):nm s i=none:=by
 unfold nm;rw[show zX s i=i by unfold zX;rw[yf h45],yf h]
theorem Nw{s:Bs}{i:Nat}(h:QK s i=true):bt s i=110:=by simp[QK]at h;exact h.1.1.1
theorem Nx{s:Bs}{i:Nat}(h:QX s i=true):bt s i=116:=by simp[QX]at h;exact h.1.1.1
theorem Ny{s:Bs}{i:Nat}(h:Ji s i=true):bt s i=102:=by simp[Ji]at h;exact h.1.1.1.1
theorem zaS{s:Bs}{i:Nat}(h:bt s i=110):val s i=if QK s i=true then some (.nul,i+4)else none:=by
 rw[VM (by omega) (by omega) (by omega)];split
 ·rfl
 ·rw[yf (fun g=>by have:=Nx g;omega),yf (fun g=>by have:=Ny g;omega),Nv (by omega) (by rw[h];decide)];rfl
theorem zaT{s:Bs}{i:Nat}(h:bt s i=116):val s i=if QX s i=true then some (.tt,i+4)else none:=by
 rw[VM (by omega) (by omega) (by omega),yf (fun g=>by have:=Nw g;omega)];split
 ·rfl
 ·rw[yf (fun g=>by have:=Ny g;omega),Nv (by omega) (by rw[h];decide)];rfl
theorem zaU{s:Bs}{i:Nat}(h:bt s i=102):val s i=if Ji s i=true then some (.ff,i+5)else none:=by
 rw[VM (by omega) (by omega) (by omega),yf (fun g=>by have:=Nw g;omega),yf (fun g=>by have:=Nx g;omega)];split
 ·rfl
 ·rw[Nv (by omega) (by rw[h];decide)];rfl
theorem zaV{s:Bs}{i:Nat}(h1:bt s i≠91)(h2:bt s i≠123)(h3:bt s i≠34)(h4:bt s i≠110)(h5:bt s i≠116)(h6:bt s i≠102):val s i=(nm s i).map fun q=>(.num q.1,q.2):=by
 rw[VM h1 h2 h3,yf (fun g=>h4 (Nw g)),yf (fun g=>h5 (Nx g)),yf (fun g=>h6 (Ny g))]
theorem Lo (rb:Nat) (s:Bs) (i:Nat) (tb kt:Bool) (w:Wo) (h:zo rb s i tb kt w) (hs:s.size<=100000) (hi:i<=s.size) (B:Nat) (hT:qJ B w) (hE:Qr B w) (hB:B<=rb)
  (HA:∀ w1,zo rb s i tb kt w1->KB rb w w1->bt s i=91->Calls prog 176 #[.pointer (some ⟨rb,0,none⟩)] w1 (JR rb s tb kt w1 (val s i)))
  (HO:∀ w1,zo rb s i tb kt w1->KB rb w w1->bt s i=123->Calls prog 177 #[.pointer (some ⟨rb,0,none⟩)] w1 (JR rb s tb kt w1 (val s i))):
  Calls prog 155 #[.pointer (some ⟨rb,0,none⟩)] w (JR rb s tb kt w (val s i)):=by
 have R:=h.lt;have L:=zb (NG rb s i tb kt w h hi);have y:=zb HA;have A:=zb HO;have P:=zb hT;have O:=zb hE;clear h HA HO hT hE;go_in;go_wp2_with fail;refine (uh L).mono ?_;rintro e w1 ⟨rfl,N,k⟩;have x:=zb N;clear L N;by_cases u:bt s i=110
 ·have J:((bt s i:Int) ==110)=true:=by rw[yC];omega
  have n:=zb (zaS u)
  cases hw:QK s i with
  | true=>
   have o:=zb (FZ rb s i tb kt w1 (uh x) (by omega) ⟨#[110,117,108,108]⟩ (by decide) (Ul hw) ((Ll s i).2 hw));have f:Hid (val s i=some (.nul,i+4)):=by show _=_;rw[uh n,yg hw]
   clear u hw;go_wp2_with fail;refine (uh o).mono ?_;rintro e v ⟨rfl,r,a⟩;have D:=zb r;have C:=k.trans a;clear o r;go_wp2;go_ret;refine⟨C,?_⟩;rw[uh f];exact⟨_,_,rfl,by simp only[zY,zy,Bool.or_false];exact uh D,fun _ _=>by rw[zi]⟩
  | false=>
   have o:=zb (F0 rb s i tb kt w1 (uh x) (by omega) ⟨#[110,117,108,108]⟩ (by decide) (by decide) hi (fun g=>by rw[(Ll s i).1 g]at hw;cases hw));have f:Hid (val s i=none):=by show _=_;rw[uh n,yf (by rw[hw];simp)]
   clear u hw;go_wp2_with fail;refine (uh o).mono ?_;rintro e v ⟨rfl,a⟩;exact⟨rfl,k.trans a,by rw[uh f];rfl⟩
 have S:((bt s i:Int) ==110)=false:=by rw[yd];omega
 by_cases b:bt s i=116
 ·have J:((bt s i:Int) ==116)=true:=by rw[yC];omega
  have n:=zb (zaT b)
  cases hw:QX s i with
  | true=>
   have o:=zb (FZ rb s i tb kt w1 (uh x) (by omega) ⟨#[116,114,117,101]⟩ (by decide) (Um hw) ((Lm s i).2 hw));have f:Hid (val s i=some (.tt,i+4)):=by show _=_;rw[uh n,yg hw]
   clear u b hw;go_wp2_with fail;refine (uh o).mono ?_;rintro e v ⟨rfl,r,a⟩;have D:=zb r;have C:=k.trans a;clear o r;go_wp2;go_ret;refine⟨C,?_⟩;rw[uh f];exact⟨_,_,rfl,by simp only[zY,zy,Bool.or_false];exact uh D,fun _ _=>by rw[zi]⟩
  | false=>
   have o:=zb (F0 rb s i tb kt w1 (uh x) (by omega) ⟨#[116,114,117,101]⟩ (by decide) (by decide) hi (fun g=>by rw[(Lm s i).1 g]at hw;cases hw));have f:Hid (val s i=none):=by show _=_;rw[uh n,yf (by rw[hw];simp)]
   clear u b hw;go_wp2_with fail;refine (uh o).mono ?_;rintro e v ⟨rfl,a⟩;exact⟨rfl,k.trans a,by rw[uh f];rfl⟩
 have T:((bt s i:Int) ==116)=false:=by rw[yd];omega
 by_cases E:bt s i=102
 ·have J:((bt s i:Int) ==102)=true:=by rw[yC];omega
  have n:=zb (zaU E)
  cases hw:Ji s i with
  | true=>
   have o:=zb (FZ rb s i tb kt w1 (uh x) (by omega) ⟨#[102,97,108,115,101]⟩ (by decide) (Kj hw) ((Ln s i).2 hw));have f:Hid (val s i=some (.ff,i+5)):=by show _=_;rw[uh n,yg hw]
   clear u b E hw;go_wp2_with fail;refine (uh o).mono ?_;rintro e v ⟨rfl,r,a⟩;have D:=zb r;have C:=k.trans a;clear o r;go_wp2;go_ret;refine⟨C,?_⟩;rw[uh f];exact⟨_,_,rfl,by simp only[zY,zy,Bool.or_false];exact uh D,fun _ _=>by rw[zi]⟩
  | false=>
   have o:=zb (F0 rb s i tb kt w1 (uh x) (by omega) ⟨#[102,97,108,115,101]⟩ (by decide) (by decide) hi (fun g=>by rw[(Ln s i).1 g]at hw;cases hw));have f:Hid (val s i=none):=by show _=_;rw[uh n,yf (by rw[hw];simp)]
   clear u b E hw;go_wp2_with fail;refine (uh o).mono ?_;rintro e v ⟨rfl,a⟩;exact⟨rfl,k.trans a,by rw[uh f];rfl⟩
 have U:((bt s i:Int) ==102)=false:=by rw[yd];omega
 by_cases G:bt s i=34
 ·have J:((bt s i:Int) ==34)=true:=by rw[yC];omega
  have n:=zb (NS G);have d:=zb (SQ rb s i tb kt w1 (uh x) (by omega) hi B ((uh P).next (k.below hB (by omega)) (ye _)) hB)
  cases hq:ZD s i with
  | none=>
   have f:Hid (val s i=none):=by show _=_;rw[uh n,hq];rfl
   rw[hq]at d;clear u b E G hq;go_wp2_with fail;refine (uh d).mono ?_;rintro e v ⟨a,rfl⟩;exact⟨rfl,k.trans a,by rw[uh f];rfl⟩
  | some q=>
   obtain⟨l,j⟩:=q;have f:Hid (val s i=some (.str l,j)):=by show _=_;rw[uh n,hq];rfl
   rw[hq]at d;clear u b E G hq;go_wp2_with fail;refine (uh d).mono ?_;rintro e v ⟨a,rfl,r⟩;have D:=zb r;have C:=k.trans a;clear d r;go_wp2;go_ret;refine⟨C,?_⟩;rw[uh f];exact⟨_,_,rfl,by simp only[zY,zy,Bool.or_false];exact uh D,fun _ _=>by rw[zi]⟩
 have V:((bt s i:Int) ==34)=false:=by rw[yd];omega
 by_cases H:bt s i=91
 ·have J:((bt s i:Int) ==91)=true:=by rw[yC];omega
  have d:=zb (uh y _ (uh x) k H);clear u b E G H y A
  cases hv:val s i with
  | none=>
   rw[hv]at d;have m:=zb hv;clear hv;go_wp2_with fail;refine (uh d).mono ?_;rintro e v ⟨a,rfl⟩;exact⟨rfl,k.trans a,by rw[uh m];rfl⟩
  | some q=>
   rw[hv]at d;have m:=zb hv;clear hv;go_wp2_with fail;refine (uh d).mono ?_;rintro e v I;have F:=zb (I.from k);obtain⟨a,t,p,rfl,_,_⟩:=I;go_wp2;go_ret;rw[uh m];exact uh F
 have W:((bt s i:Int) ==91)=false:=by rw[yd];omega
 by_cases K:bt s i=123
 ·have J:((bt s i:Int) ==123)=true:=by rw[yC];omega
  have d:=zb (uh A _ (uh x) k K);clear u b E G H K y A
  cases hv:val s i with
  | none=>
   rw[hv]at d;have m:=zb hv;clear hv;go_wp2_with fail;refine (uh d).mono ?_;rintro e v ⟨a,rfl⟩;exact⟨rfl,k.trans a,by rw[uh m];rfl⟩
  | some q=>
   rw[hv]at d;have m:=zb hv;clear hv;go_wp2_with fail;refine (uh d).mono ?_;rintro e v I;have F:=zb (I.from k);obtain⟨a,t,p,rfl,_,_⟩:=I;go_wp2;go_ret;rw[uh m];exact uh F
 have X:((bt s i:Int) ==123)=false:=by rw[yd];omega
 have n:=zb (zaV H K G u b E);have d:=zb (zaz rb s i tb kt w1 (uh x) hs hi B ((uh O).next (k.below hB (by omega)) (ye _)) hB);clear u b E G H K y A
 cases hn:nm s i with
 | none=>
  have f:Hid (val s i=none):=by show _=_;rw[uh n,hn];rfl
  rw[hn]at d;clear hn;go_wp2_with fail;refine (uh d).mono ?_;rintro e v ⟨a,rfl⟩;exact⟨rfl,k.trans a,by rw[uh f];rfl⟩
 | some q=>
  obtain⟨l,j⟩:=q;have f:Hid (val s i=some (.num l,j)):=by show _=_;rw[uh n,hn];rfl
  rw[hn]at d;clear hn;go_wp2_with fail;refine (uh d).mono ?_;rintro e v ⟨a,z,rfl,r,M⟩;have D:=zb r;have Q:=zb M;have C:=k.trans a;clear d r M;go_wp2;go_ret;refine⟨C,?_⟩;rw[uh f];refine⟨_,_,rfl,by simp only[zY,zy,Bool.or_false];exact uh D,fun hb _=>?_⟩;rw[zi];exact⟨z,rfl,uh Q (by simpa only [zY]using hb)⟩
theorem KB.keep{rb:Nat}{w w':Wo}{S:Nat->Prop}(k:KB rb w w')(hS:∀ b,S b->b<w.heap.size/\b≠rb):∀ b,S b->w'.heap[b]?=w.heap[b]?:=fun b hb=>k.block b (hS b hb).1 (hS b hb).2
theorem Lp (rb:Nat) (s:Bs) (i:Nat) (tb kt:Bool) (w:Wo) (h:zo rb s i tb kt w) (hs:s.size<=100000) (hi:i<=s.size)
  (HB:∀ w1,zo rb s (sk s i) tb kt w1->KB rb w w1->Calls prog 155 #[.pointer (some ⟨rb,0,none⟩)] w1 (JR rb s tb kt w1 (val s (sk s i)))):
  Calls prog 127 #[.pointer (some ⟨rb,0,none⟩)] w (JR rb s tb kt w ((val s (sk s i)).map fun q=>(q.1,sk s q.2))):=by
 have D:=h.lt;have m:=zb (Ui rb s i tb kt w h (by omega) hi);have g:=zb HB;clear h HB;go_in;go_wp2_with fail;refine (uh m).mono ?_;rintro e w1 ⟨rfl,y,n⟩;have l:=zb (uh g w1 y n);clear m g y
 cases hv:val s (sk s i)with
 | none=>
  rw[hv]at l;have f:=zb hv;clear hv;go_wp2_with fail;refine (uh l).mono ?_;rintro e B ⟨o,rfl⟩;exact⟨rfl,n.trans o,by rw[uh f];rfl⟩
 | some q=>
  obtain⟨v,j⟩:=q;have r:=Vf hv;rw[hv]at l;have f:=zb hv;clear hv;go_wp2_with fail;refine (uh l).mono ?_;rintro e B E;obtain⟨o,t,p,rfl,z,d⟩:=E;have x:=zb (Ui rb s j _ _ B z (by omega) r.2);have k:=zb d;have F:=n.size;have G:=o.size;clear l d z;go_wp2_with fail;refine (uh x).mono ?_;rintro e I ⟨rfl,A,u⟩;have C:=zb A;have H:=u.size;clear x A;go_wp2;go_ret;rw[uh f];exact⟨(n.trans o).trans u,t,p,rfl,uh C,fun a b=>zi.keep (u.keep fun b hb=>⟨hb.2,by omega⟩) (fun b hb=>⟨by omega,by omega⟩) _ _ (uh k a b)⟩
def Ya(s:Bs)(i:Nat):Option ((List UInt8×JV)×Nat):=(ZD s (sk s i)).bind fun k=>if bt s (sk s k.2)=58 then (val s (sk s (sk s k.2+1))).map fun q=>((k.1,q.1),sk s q.2)else none
def zaW(rb b:Nat)(s:Bs)(tb kt:Bool)(xs:List (List UInt8×Value))(nn:Nat)(w:Wo)(o:Option ((List UInt8×JV)×Nat))(e:Ending)(w':Wo):Prop:=
 Jc rb b w w'/\o.elim (e=Jg) fun q=>∃ (t:TypeId) (p:Value),e= .returned (.tuple #[])/\zo rb s q.2 (tb || zY q.1.2) ((kt || zy q.1.2) ||(xs.map (·.1)).contains q.1.1) w' /\
  w'.ownsMap prog 9 RH b (nn+1) (Zb (xs++[(q.1.1,.iface t p)]))/\(zY q.1.2=false->zy q.1.2=false->zi w' (fun k=>w.heap.size<=k/\k<w'.heap.size) q.1.2 (.iface t p))
theorem zo.setTwice{rb:Nat}{s:Bs}{i:Nat}{tb kt:Bool}{w:Wo}(h:zo rb s i tb kt w):zo rb s i tb true (w.setCell ⟨rb,3,none⟩ (.bool true)):=heap_setCell_same w rb 3 _ 184 (.bool true) h
theorem zo.twicec{rb:Nat}{s:Bs}{i:Nat}{tb kt:Bool}{w:Wo}(h:zo rb s i tb kt w):w.cell? ⟨rb,3,none⟩=some (.bool kt):=by rw[yF h];rfl
theorem Jc.grown{rb sc:Nat}{a w w':Wo}(h:Jc rb sc a w)(g:w.grownBy w' (some sc)):Jc rb sc a w':=
 ⟨g.os.trans h.os,g.tape.trans h.tape,g.output.trans h.output,yP h.size g.size,fun i hi h1 h2=>(g.block i (yE hi h.size) (by intro e;injection e with e;exact h2 e)).trans (h.block i hi h1 h2)⟩
theorem Nz(key:List UInt8)(hk:key.length<=1048576):keyOf prog 9 (.string (ze key))=some (.string key):=by
 have:=WideMaps.keyOf_string_mk underlying9 (s:=ze key) (by rw[Zw];unfold maxLen;omega)
 rwa [Zf]at this
theorem Lq (rb:Nat) (s:Bs) (i:Nat) (tb kt:Bool) (w:Wo) (h:zo rb s i tb kt w) (hs:s.size<=100000) (hi:i<=s.size) (B:Nat) (hT:qJ B w) (hB:B<=rb)
  (b nn:Nat) (xs:List (List UInt8×Value)) (hm:w.ownsMap prog 9 RH b nn (Zb xs)) (hbr:rb<b) (hnn:nn<=1048576)
  (HV:∀ (j:Nat) (w1:Wo),i<j->j<=s.size->zo rb s j tb kt w1->KB rb w w1->Calls prog 127 #[.pointer (some ⟨rb,0,none⟩)] w1 (JR rb s tb kt w1 ((val s (sk s j)).map fun q=>(q.1,sk s q.2)))):
  Calls prog 208 #[.pointer (some ⟨rb,0,none⟩),.map (some b)] w (zaW rb b s tb kt xs nn w (Ya s i)):=by
 have hlt:=h.lt;have hbl:=hm.lt;have H:=zb (Ui rb s i tb kt w h (by omega) hi);have HT:=zb hT;have HM:=zb hm;have R:=zb HV;have k0:=Ze s i;have k1':=(QV hi).2;have A:Hid (Ya s i=(ZD s (sk s i)).bind fun k=>if bt s (sk s k.2)=58 then (val s (sk s (sk s k.2+1))).map fun q=>((k.1,q.1),sk s q.2)else none):=rfl;clear h hT hm HV;go_in;go_wp2_with fail;refine (uh H).mono ?_;rintro e w1 ⟨rfl,r1,L⟩;have m:=zb (SQ rb s (sk s i) tb kt w1 r1 (by omega) k1' B ((uh HT).next (L.below hB (by omega)) (ye _)) hB);clear H r1
 cases hq:ZD s (sk s i)with
 | none=>
  rw[hq]at m;have x:Hid (Ya s i=none):=by show _=_;rw[uh A,hq];rfl
  clear hq;go_wp2_with fail;refine (uh m).mono ?_;rintro e w2 ⟨M,rfl⟩;exact⟨rfl,(L.trans M).two b,by rw[uh x];rfl⟩
 | some q=>
  obtain⟨d,a⟩:=q;have K:=Ye hq;have hql:=KH hq;have l:Hid (Ya s i=if bt s (sk s a)=58 then (val s (sk s (sk s a+1))).map fun q=>((d,q.1),sk s q.2)else none):=by show _=_;rw[uh A,hq];rfl
  rw[hq]at m;clear hq A;go_wp2_with fail;refine (uh m).mono ?_;rintro e w2 ⟨M,rfl,r2⟩;have G:=zb (Ui rb s a tb kt w2 r2 (by omega) K.2);have K2:=zb (L.trans M);have ka0:=Ze s a;have ka1:=(QV K.2).2;clear m r2 L M;go_wp2_with fail;refine (uh G).mono ?_;rintro e w3 ⟨rfl,r3,k3⟩;have T:=zb ((uh K2).trans k3);have Z:=zb r3;clear G r3 k3 K2;generalize sk s a=E at *;by_cases f:bt s E=58
  ·have hkl:E<s.size:=zZ (by omega);have r:=zb (Gv rb s E tb kt w3 (uh Z) (by omega) 58 f hkl);rw[yg f]at l;clear f;go_wp2_with fail;refine (uh r).mono ?_;rintro e Q ⟨rfl,r4,N⟩;have I:=zb ((uh T).trans N);have F:=zb (uh R (E+1) Q (by omega) (by omega) r4 (uh I));clear r r4 N T Z
   cases hv:val s (sk s (E+1))with
   | none=>
    rw[hv]at F;have x:Hid (Ya s i=none):=by show _=_;rw[uh l,hv];rfl
    clear hv;go_wp2_with fail;refine (uh F).mono ?_;rintro e g ⟨O,rfl⟩;exact⟨rfl,((uh I).trans O).two b,by rw[uh x];rfl⟩
   | some q=>
    obtain⟨v,n⟩:=q;rw[hv]at F;have x:Hid (Ya s i=some ((d,v),sk s n)):=by show _=_;rw[uh l,hv];rfl
    clear hv l;go_wp2_with fail;refine (uh F).mono ?_;rintro e g ⟨O,t,p,rfl,P,z⟩;have U:=zb ((uh I).trans O);have hs4:=(uh I).size;have hs5:=O.size;have W:=zb (VZ (uh HM) ((uh U).block b hbl (by omega)));obtain⟨v0,J,_⟩:=RK (uh W) d (by omega);have y:=zb z;have R5:=zb P;have c3:=P.twicec;have f3:=P.fz 3;have HH:=zb (RJ d xs);clear F P z I HM;have u:=zb (Nz d (by omega))
    cases hl:(JB xs d).isSome with
    | true=>
     rw[hl]at J;have M6:=zb (VZ (w':=g.setCell ⟨rb,3,none⟩ (.bool true)) (uh W) (Below.heap_setCell g ⟨rb,3,none⟩ (.bool true) b (by show b≠rb;omega)));have R6:=zb (uh R5).setTwice;go_wp2_with (refine wpList_mapUpdate_own _ rfl (.tmp 30) (.tmp 31) (.tmp 32) 226 rfl 9 66 (Maps.string_keyed underlying9) underlying226 RH b nn (Zb xs) rfl (uh M6) (by unfold maxLen;omega) _ _ (.string d) rfl rfl (uh u) (.held (.iface t p)) [] rfl ?_;intro D C o);have hg7:=o.size;have R7:zo rb s (sk s n) (tb || zY v) ((kt || zy v) ||(xs.map (·.1)).contains d) D:=by
      rw[← uh HH,hl];refine (o.block rb ?_ (by intro e;injection e with e;omega)).trans ?_
      ·show rb<(g.setCell _ _).heap.size;simp[World.setCell];omega
      ·rw[Bool.or_true];exact uh R6
     have Y:zY v=false->zy v=false->zi D (fun k=>w.heap.size<=k/\k<D.heap.size) v (.iface t p):=fun a b'=>by
      refine zi.keep (w:=g) (S:=fun k=>Q.heap.size<=k/\k<g.heap.size) (fun k hk=>?_) (fun k hk=>?_) v _ (uh y a b')
      ·exact (o.block k (by simp[World.setCell];omega) (by intro e;injection e with e;omega)).trans (Below.heap_setCell g ⟨rb,3,none⟩ (.bool true) k (by show k≠rb;omega))
      ·have h9:(g.setCell ⟨rb,3,none⟩ (.bool true)).heap.size=g.heap.size:=by simp[World.setCell]
       exact⟨by omega,by omega⟩
     rw[← V2]at C;have X:=zb C;have V:=zb ((((uh U).set 3 (.bool true)).two b).grown o);clear C o;go_end0;refine⟨uh V,?_⟩;rw[uh x];exact⟨t,p,rfl,R7,uh X,Y⟩
    | false=>
     rw[hl]at J;go_wp2_with (refine wpList_mapUpdate_own _ rfl (.tmp 30) (.tmp 31) (.tmp 32) 226 rfl 9 66 (Maps.string_keyed underlying9) underlying226 RH b nn (Zb xs) rfl (uh W) (by unfold maxLen;omega) _ _ (.string d) rfl rfl (uh u) (.held (.iface t p)) [] rfl ?_;intro D C o);have hg7:=o.size;have R7:zo rb s (sk s n) (tb || zY v) ((kt || zy v) ||(xs.map (·.1)).contains d) D:=by
      rw[← uh HH,hl];refine (o.block rb ?_ (by intro e;injection e with e;omega)).trans ?_
      ·show rb<g.heap.size;omega
      ·rw[Bool.or_false];exact uh R5
     have Y:zY v=false->zy v=false->zi D (fun k=>w.heap.size<=k/\k<D.heap.size) v (.iface t p):=fun a b'=>by
      refine zi.keep (w:=g) (S:=fun k=>Q.heap.size<=k/\k<g.heap.size) (fun k hk=>?_) (fun k hk=>?_) v _ (uh y a b')
      ·exact o.block k (by omega) (by intro e;injection e with e;omega)
      ·have h9:True:=trivial;exact⟨by omega,by omega⟩
     rw[← V2]at C;have X:=zb C;have V:=zb (((uh U).two b).grown o);clear C o;go_end0;refine⟨uh V,?_⟩;rw[uh x];exact⟨t,p,rfl,R7,uh X,Y⟩
  ·have r:=zb (Kg rb s E tb kt w3 (uh Z) (by omega) ka1 58 (.inl f));have x:Hid (Ya s i=none):=by show _=_;rw[uh l,yf f]
   clear f;go_wp2_with fail;refine (uh r).mono ?_;rintro e Q ⟨rfl,N⟩;exact⟨rfl,((uh T).trans N).two b,by rw[uh x];rfl⟩
theorem Lr(s:Bs)(i:Nat):sk s (sk s i)=sk s i:=Kh (zba s i)
theorem NA:(prog.info? 66).map (fun i=>(i.zero,i.size,i.bytes))=some (some .nilIface,1,16):=by kernel_rfl
theorem Gs(w:Wo)(o:Obj):Bw w (w.alloc o):=(yH _ _).alloc (ye _) _
abbrev Yb(sv:Value):Obj:=.cells #[sv] 198 (0,0)
end Go.Proofs.YtekpghcckdjnhaaGreatDoor
