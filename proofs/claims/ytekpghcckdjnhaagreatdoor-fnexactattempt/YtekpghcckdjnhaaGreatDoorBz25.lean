import Derived.Test.YtekpghcckdjnhaaGreatDoorBz22
import Derived.Test.YtekpghcckdjnhaaGreatDoorBz24
import Derived.Stop.Asserts
set_option maxRecDepth 100000
set_option maxHeartbeats 8000000
namespace Go.Proofs.YtekpghcckdjnhaaGreatDoor
open Go.RowKit Go.Sort Go.Proofs.Tryz
theorem zaJ{w:Wo}{b n:Nat}{xs:List (List UInt8×Value)}(h:w.ownsMap prog 9 RH b n (Zb xs))(key:List UInt8)(hk:key.length<=10000000)(v:Value)(hv:JB xs key=some v):
  (Instr.lookup 226 (.map (some b)) (.string (ze key)) false).run prog w= .ok v w:=by
 obtain⟨r,j,o,F,_,m⟩:=h;have g:keyOf prog 9 (.string (ze key))=some (.string key):=by
  have:=WideMaps.keyOf_string_mk underlying9 (s:=ze key) (by rw[Zw];unfold maxLen;omega)
  rwa [Zf]at this
 have p:(zeroValue 66).run prog w= .ok .nilIface w:=by kernel_rfl
 have a:=fun z=>UL key z xs;rw[m]at a;rcases Maps.fit_look false (Maps.string_keyed underlying9) underlying226 p o F g with ⟨d,_,i⟩ |⟨q,y,_,_,d,k,i,_⟩
 ·have f:=(i (.held .nilIface)).symm.trans (a (.held .nilIface));have l:=(i (.held (.bool true))).symm.trans (a (.held (.bool true)));rw[hv]at f l;exact absurd (f.trans l.symm) (by intro e;injection e with e;cases e)
 ·injection k with k;subst k;have f:=(i (.held .nilIface)).symm.trans (a (.held .nilIface));rw[hv]at f;injection f with f;subst f;exact d
theorem Yu{w:Wo}{S:Nat->Prop}:∀ (m:JM) (xs:List (List UInt8×Value)),Zu w S m xs->xs.map (·.1)=Qd m/\∀ k v,(k,v)∈m.toL->∃ x,(k,x)∈xs/\zi w S v x
 | .nil,xs,h=>by rw[Zu]at h;subst h;exact⟨rfl,fun k v h=>by simp[JM.toL]at h⟩
 | .cons k v r,xs,h=>by
  rw[Zu]at h;obtain⟨x,xs',rfl,h2,h3⟩:=h;obtain⟨d,f⟩:=Yu r xs' h3;refine⟨by simp[Qd,d],fun k' v' a=>?_⟩;rcases List.mem_cons.1 a with e | a
  ·injection e with e1 e2;subst e1;subst e2;exact⟨x,yp,h2⟩
  ·obtain⟨g,hx,b⟩:=f k' v' a;exact⟨g,yv _ hx,b⟩
theorem Wh{k:List UInt8}{x:Value}:∀ xs:List (List UInt8×Value),(xs.map (·.1)).Nodup->(k,x)∈xs->JB xs k=some x:=by
 refine WK (fun _ h=>by simp at h) ?_;rintro l ⟨f,i⟩ g b a;rw[RG];rw[yw,List.nodup_append]at b;rcases List.mem_append.1 a with a | a
 ·have d:¬ f=k:=fun e=>by
   subst e;exact b.2.2 f (yO.2 ⟨_,a,rfl⟩) f (by simp) rfl
  rw[yf d];exact g b.1 a
 ·simp at a;rw[yg a.1.symm,a.2]
theorem Wi(x:List UInt8):∀ xs:List (List UInt8×Value),Maps.has (Zb xs) (.string x)=(xs.map (·.1)).contains x:=by
 refine WK rfl ?_;rintro l ⟨k,v⟩ a;rw[V2];by_cases h:x=k
 ·subst h;rw[Maps.has_put_same (RI l) (show WideAt.IsKeyLit (.string x)from trivial)];simp
 ·rw[Maps.has_put_other (by intro e;injection e with e;exact h e),a];simp only[yw,yi,List.map_nil];rw[Bool.eq_iff_iff];simp;intro e;exact absurd e h
theorem Uf{w:Wo}{b n:Nat}{xs:List (List UInt8×Value)}(h:w.ownsMap prog 9 RH b n (Zb xs))(hnd:(xs.map (·.1)).Nodup):(xs.map (·.1)).Perm (strKeys (Zb xs)):=by
 obtain⟨g,f,l,_⟩:=h.entries (Maps.string_keyed underlying9);obtain⟨i,a,j⟩:=World.ownsMap.keysOf h;rw[f]at a;injection a with a;subst a;have k:∀ x,x∈xs.map (·.1)↔Maps.has (.map g) (.string x)=true:=fun x=>by rw[← f,Wi];simp
 rw[f];refine perm_strKeys l (fun p hp'=>?_) hnd k;obtain⟨m,d⟩:=j p hp';obtain⟨x,_,hx,_⟩:=Maps.keyOf_str underlying9 d;exact⟨x,hx⟩
theorem Ug{xs:List (List UInt8×Value)}{ks:List (List UInt8)}(h:ks.Perm (strKeys (Zb xs))):Maps.size (Zb xs)=ks.length:=by
 obtain⟨b,a⟩:=RI xs;rw[a]at h ⊢;have:=h.length_eq;simp[strKeys]at this;rw[this];rfl
theorem zaK{w w':Wo}{B b n:Nat}{v:Value}{xs:List Value}(h:w.ownsRow B 9 1 v n xs)(hb:b<B)(hk:QT b w w'):w'.ownsRow B 9 1 v n xs:=by
 refine⟨h.1,?_⟩;rcases h.2 with f |⟨g,a,d,k,i,j,r⟩
 ·exact .inl f
 ·exact .inr ⟨g,a,d,k,i,hk g _ j (by intro e;injection e with e;omega) (fun c fz e=>by injection e with _ e;cases e),r⟩
theorem zaL(m:JM)(hall:∀ q∈m.toL,Yt q.2)(hval:∀ q∈m.toL,Lib.validD q.1=true)(hnd:(Qd m).Nodup):Yt (.obj m):=by
 intro B b l0 w S t p h hS H hB hP P;rw[zi]at h;obtain⟨ob,mb,nn,u,h,hSob,L,hob,E,_,hrm⟩:=h;injection h with h1 h2;subst h1;subst h2;obtain⟨n,hrep⟩:=Yu m u hrm;have T:(u.map (·.1)).Nodup:=by rw[n];exact hnd
 have D:=Uf E T;have hct:ct (.obj m)=123 ::(joinC ((zH (zj m)).map zn)++[125]):=rfl;have hpl:(zH (zj m)).length=u.length:=by
  have a1:=congrArg List.length n;have a2:=congrArg List.length (Kl m);simp only[yl]at a1 a2;rw[(qL _).length_eq];omega
 have hn:=Lf ((zH (zj m)).map zn);rw[yl]at hn;have hjt:l0.length+(joinC ((zH (zj m)).map zn)).length+2<=10000000:=by rw[hct]at P;simp at P;omega
 have hxn:u.length<=10000000:=by omega
 have U:ob<B:=hS _ hSob;have hbB:B<=b:=H.elim (fun x=>x.1) (fun x=>x.1);have hblt:b<w.heap.size:=H.lt;have hc0:w.cell? ⟨ob,0,none⟩=some (.map (some mb)):=by rw[yF hob];rfl
 have hsz:Maps.size (Zb u)=u.length:=by rw[Ug D,yl]
 have HSK:Hid (∀ W,Below B w W->Calls prog 323 #[.pointer (some ⟨ob,0,none⟩)] W fun e y=>∃ v,e= .returned v/\y.ownsRow W.heap.size 9 1 v u.length (((zH (zj m)).map (·.1)).map encStr)/\Bw W y):=fun W hb1=>by
  have hc1:W.cell? ⟨ob,0,none⟩=some (.map (some mb)):=(hb1.cell (p:=⟨ob,0,none⟩) U).trans hc0;refine (zaI ob mb nn (Zb u) RH W hc1 (VZ E (hb1.block mb (hS _ L))) (by rw[hsz];unfold maxLen;omega) (by rw[hsz];omega)).mono ?_;rintro e y ⟨v,ss,rfl,hss,o,_,hb⟩;have hks:ss.Perm ((zj m).map (·.1)):=by
   rw[Kl,← n];exact hss.trans D.symm
  have hl:ss.length=u.length:=by rw[hks.length_eq,Kl,← n,yl]
  rw[zby hks,hl]at o;exact⟨v,rfl,o,hb⟩
 have K:Hid (∀ k,(O:k<(zH (zj m)).length)->Lib.validD (zH (zj m))[k].1=true/\∃ t p f,XL t p f/\(∀ X:Wo,Below B w X->(zH (zj m))[k].1.length<=10000000->(Instr.lookup 226 (.map (some mb)) (.string (ze (zH (zj m))[k].1)) false).run prog X= .ok (.iface t p) X) /\
   ∀ (acc:List UInt8) (wr:Wo),zS B b acc wr->Below B w wr->acc.length+(zH (zj m))[k].2.length<=10000000->Calls prog f #[p,.pointer (some ⟨b,0,none⟩)] wr fun e y=>e= .returned (.tuple #[])/\zS B b (acc++(zH (zj m))[k].2) y/\Below B wr y/\QT b wr y):=by
  intro k O;have hmem:(zH (zj m))[k]∈zj m:=(qL _).subset (yr O);obtain⟨q,hq,he⟩:∃ q∈m.toL,(q.1,ct q.2)=(zH (zj m))[k]:=by
   have h2:=qQ m;generalize (zH (zj m))[k]=z at *;rw[h2]at hmem;exact yO.1 hmem
  have e1:(zH (zj m))[k].1=q.1:=by rw[← he]
  have e2:(zH (zj m))[k].2=ct q.2:=by rw[← he]
  rw[e1,e2];obtain⟨x,hx,hr⟩:=hrep q.1 q.2 hq;obtain⟨t,p,rfl⟩:=Vb hr;have hlast:=Wh u T hx;refine⟨hval q hq,t,p,wf q.2,Nq hr,fun X hX hkl=>?_,fun acc wr hI' hb' hl'=>?_⟩
  ·exact zaJ (VZ E (hX.block mb (hS _ L))) q.1 hkl _ hlast
  ·exact hall q hq B b acc wr S t p (zi.keep (fun k O=>hb'.block k (hS k O)) (fun _ h=>h) _ _ hr) hS hI' (yP hB hb'.size) (hP.next hb' (ye _)) hl'
 have hl0:(Lib.byteCells l0).length<=10000000:=by rw[yK];omega
 have HCT:=zb hct;generalize zH (zj m)=l at *;have HJ:Hid (∀ k (O:k<l.length),joinC ((l.map zn).take (k+1))=joinC ((l.map zn).take k)++(if k=0 then zn l[k]else 44 :: zn l[k])):=fun k O=>by
  have:=Ld (l.map zn) k (by rw[yl];exact O);rw[this];simp
 have Z:Hid (∀ k,(joinC ((l.map zn).take k)).length<=(joinC (l.map zn)).length):=Le (l.map zn);have HE:Hid ((l.map zn).take u.length=l.map zn):=yq (by rw[yl];omega);have F:Hid (∀ (acc:List UInt8) (c:Int) (c':UInt8) (wr:Wo),c=(c'.toNat:Int)->acc.length<=10000000->zS B b acc wr->B<=wr.heap.size->Calls prog 180 #[.pointer (some ⟨b,0,none⟩),.int .u8 c] wr fun e y=>e= .returned .nilIface/\zS B b (acc++[c']) y/\Below B wr y/\QT b wr y):=fun acc c c' wr hc ha hI' hB'=>by
  refine (W6 B b _ c wr hI' (by rw[yK];omega) hB').mono ?_;rintro e y ⟨rfl,h1,b1,k1⟩;exact⟨rfl,zS.byte hc h1,b1,k1⟩
 have HWS:Hid (∀ (acc:List UInt8) (d:List UInt8) (wr:Wo),Lib.validD d=true->acc.length+(quoted d).length<=10000000->zS B b acc wr->B<=wr.heap.size->Calls prog 325 #[.string (ze d),.pointer (some ⟨b,0,none⟩)] wr fun e y=>e= .returned (.tuple #[])/\zS B b (acc++quoted d) y/\Below B wr y/\QT b wr y):=fun acc d wr hv ha hI' hB'=>by
  have hq:=KJ d;refine (OH B b acc (ze d) wr hI' hB' (by omega) (by rw[Zw];omega)).mono ?_;rintro e y ⟨rfl,h1,b1,k1⟩;have e:quoted d=34 ::(rs (ze d)++[34]):=by rw[OL (ze d) (by rw[Zf];exact hv),Zf];rfl
  exact⟨rfl,by rw[e];exact h1,b1,k1⟩
 have HW0:=zb (uh F l0 123 123 w rfl (by omega) H hB);have HB:=zb hB;have HC0:Hid (∀ X:Wo,Below B w X->X.cell? ⟨ob,0,none⟩=some (.map (some mb))):=fun X hX=>(hX.cell (p:=⟨ob,0,none⟩) U).trans hc0;clear E hrm hrep n T D hS hP hob hct hall hval hnd P hn H hB hSob L hsz hc0 U;show Calls prog 324 _ _ _
 go_in;go_wp2_with fail;refine (uh HW0).mono ?_;rintro e W ⟨rfl,i1,b1,k1⟩;have HSK1:=zb (uh HSK W b1);have I1:=zb i1;have B1:=zb b1;have K1:=zb k1;have hw1:=b1.size;clear HW0 i1 b1 k1 HSK;go_wp2_with fail;refine (uh HSK1).mono ?_;rintro e w2 ⟨v2,rfl,o,b2⟩;have hw2:=b2.size;have I2:=zb (Lb (uh I1) b2);have B2:=zb ((uh B1).trans (b2.mono (yP (uh HB) hw1)));have K2:=zb (Lib.OthersKept.below (uh K1) b2);obtain⟨a2,g2,c2,rfl,hadr,N⟩:∃ a g c,v2= .slice a u.length c/\(0<u.length->a=some ⟨g,0,none⟩)/\(∀ (wr:Wo),QT b w2 wr->∀ j (hj:j<l.length),wr.cell? ⟨g,j,none⟩=some (.string (ze l[j].1))):=by
  rcases o.2 with ⟨hv,h0⟩ |⟨g,cap,cur,hv,_⟩
  ·exact⟨none,0,0,by rw[hv,h0],fun h=>by omega,fun wr O j hj=>by omega⟩
  ·refine⟨some ⟨g,0,none⟩,g,cap,hv,fun _=>rfl,fun wr O j hj=>?_⟩;subst hv;have:=(zaK o (by omega) O).cellAt j (by omega);rw[this];simp[hj];rfl
 have A:=zb N;clear N o HSK1 I1 B1 K1;go_wp2_with fail;go_loopw [11] (fun i wr=>∃ k:Nat,k<=u.length/\i= .int .i64 k/\zS B b (l0++123 :: joinC ((l.map zn).take k)) wr/\Below B w wr/\QT b w2 wr) (fun i _=>u.length - (intOf i).toNat)
 case atStart=>exact⟨0,yt _,rfl,by have:=uh I2;simpa [joinC]using this,uh B2,Lib.OthersKept.refl _ _ _⟩
 case round=>
  obtain⟨k,O,rfl,H,hb,V⟩:=hrel;have G:B<=wr.heap.size:=yP (uh HB) hb.size;by_cases hlt:k<u.length
  ·have R:k<l.length:=by omega
   have hltI:(k:Int)<(u.length:Int):=by omega
   obtain rfl:=hadr (by omega);have hck:=uh A wr V k R;obtain⟨hkv,t,p,f,hw,Q,M⟩:=uh K k R;have J:=zb (uh HJ k R);have C:=uh Z (k+1);rw[uh J]at C;have hj0:=uh Z k;have hmp:=Ty l[k];have HMT:Hid (zn l[k]=quoted l[k].1++58 :: l[k].2):=rfl;have hqg:=KJ l[k].1;generalize joinC ((l.map zn).take k)=jk at *;generalize l[k].1=d at *;generalize l[k].2=txt at *;generalize zn l[k]=mt at *;have hmet:=hw.meth;have hen:=hw.ent;have aa:=zb V;have HBW:=zb hb;have s:=zb Q;have r:=zb M;clear hw Q M V hb A HJ Z K;by_cases hk0:k=0
   ·rw[yg hk0]at J C;have tk:(0<k)=False:=yQ (by omega);have hj2:jk.length+mt.length<=(joinC (l.map zn)).length:=by simpa using C
    have HS:=zb (uh HWS (l0++123 :: jk) d wr hkv (by simp;omega) H G);clear hk0 H C;go_wp2_with fail;refine (uh HS).mono ?_;rintro e w3 ⟨rfl,i3,b3,k3⟩;have B3:=zb ((uh HBW).trans b3);have K3:=zb ((uh aa).trans k3);have HC:=zb (uh F _ 58 58 w3 rfl (by simp;omega) i3 (yP G b3.size));clear HS i3 b3 k3 hck;go_wp2_with fail;refine (uh HC).mono ?_;rintro e w4 ⟨rfl,i4,b4,k4⟩;have Y:=zb ((uh B3).trans b4);have K4:=zb ((uh K3).trans k4);have hlk:=uh s w4 (uh Y) (by omega);have hcm:=uh HC0 w4 (uh Y);have I:=zb (uh r _ w4 i4 (uh Y) (by simp;omega));clear HC i4 b4 k4 s r B3 K3;go_wp2_with fail;refine (uh I).mono ?_;rintro e w5 ⟨rfl,i5,b5,k5⟩;clear I hlk hcm hmet hen;go_wp2;go_roundw
    case rel=>exact⟨k+1,by omega,by go_num,by rw[uh J,uh HMT];simpa using i5,(uh Y).trans b5,(uh K4).trans k5⟩
    case measure=>simp[intOf];omega
   ·rw[yf hk0]at J C;have tk:(0<k)=True:=eq_true (by omega);have hj2:jk.length+1+mt.length<=(joinC (l.map zn)).length:=by simp at C;omega
    have HCM:=zb (uh F (l0++123 :: jk) 44 44 wr rfl (by simp;omega) H G);clear hk0 H C;go_wp2_with fail;refine (uh HCM).mono ?_;rintro e w2' ⟨rfl,i2',ab,k2'⟩;have B2':=zb ((uh HBW).trans ab);have K2':=zb ((uh aa).trans k2');have HS:=zb (uh HWS _ d w2' hkv (by simp;omega) i2' (yP G ab.size));have hBr2:=yP G ab.size;clear HCM i2' ab k2' hck;go_wp2_with fail;refine (uh HS).mono ?_;rintro e w3 ⟨rfl,i3,b3,k3⟩;have B3:=zb ((uh B2').trans b3);have K3:=zb ((uh K2').trans k3);have HC:=zb (uh F _ 58 58 w3 rfl (by simp;omega) i3 (yP hBr2 b3.size));clear HS i3 b3 k3 B2' K2';go_wp2_with fail;refine (uh HC).mono ?_;rintro e w4 ⟨rfl,i4,b4,k4⟩;have Y:=zb ((uh B3).trans b4);have K4:=zb ((uh K3).trans k4);have hlk:=uh s w4 (uh Y) (by omega);have hcm:=uh HC0 w4 (uh Y);have I:=zb (uh r _ w4 i4 (uh Y) (by simp;omega));clear HC i4 b4 k4 s r B3 K3;go_wp2_with fail;refine (uh I).mono ?_;rintro e w5 ⟨rfl,i5,b5,k5⟩;clear I hlk hcm hmet hen;go_wp2;go_roundw
    case rel=>exact⟨k+1,by omega,by go_num,by rw[uh J,uh HMT];simpa using i5,(uh Y).trans b5,(uh K4).trans k5⟩
    case measure=>simp[intOf];omega
  ·have hk':k=u.length:=by omega
   subst hk';rw[uh HE]at H;have HWE:=zb (uh F (l0++123 :: joinC (l.map zn)) 125 125 wr rfl (by simp;omega) H G);have HB':=zb hb;have aa:=zb V;clear H hb V K HJ Z A F HWS;go_wp2_with fail;refine (uh HWE).mono ?_;rintro e w3 ⟨rfl,i3,b3,k3⟩;go_wp2;go_end0;exact⟨rfl,by rw[uh HCT];simpa using i3,(uh HB').trans b3,(uh K2).trans ((uh aa).trans k3)⟩
mutual
theorem Nr:∀ v:JV,zF v->zy v=false->Yt v
 | .nul,_,_=>zaB
 | .tt,_,_=>zaC
 | .ff,_,_=>zaD
 | .num l,_,_=>zaE l
 | .str l,h,_=>zaF l (by rw[zF]at h;exact h)
 | .arr l,h,t=>zaG l (Lg l (by rw[zF]at h;exact h) (by rw[zy]at t;exact t))
 | .obj m,h,t=>zaL m (Lh m [] (by rw[zF]at h;exact h) (by rw[zy]at t;exact t)) (Ns m (by rw[zF]at h;exact h)) (Km m [] (by rw[zy]at t;exact t)).1
theorem Lg:∀ l:JL,qw l->ZX l=false->∀ v∈l.toL,Yt v
 | .nil,_,_,v,hv=>by simp[JL.toL]at hv
 | .cons x r,h,t,v,hv=>by
  rw[qw]at h;rw[ZX,Bool.or_eq_false_iff]at t;rw[JL.toL]at hv;rcases List.mem_cons.1 hv with e | hv
  ·rw[e];exact Nr x h.1 t.1
  ·exact Lg r h.2 t.2 v hv
theorem Lh:∀ (m:JM) (ks:List (List UInt8)),qq m->ZN ks m=false->∀ q∈m.toL,Yt q.2
 | .nil,_,_,_,q,hq=>by simp[JM.toL]at hq
 | .cons k x r,ks,h,t,q,hq=>by
  rw[qq]at h;rw[ZN]at t;simp only[Bool.or_eq_false_iff]at t;rw[JM.toL]at hq;rcases List.mem_cons.1 hq with e | hq
  ·rw[e];exact Nr x h.2.1 t.1.1
  ·exact Lh r (ks++[k]) h.2.2 t.2 q hq
theorem Ns:∀ m:JM,qq m->∀ q∈m.toL,Lib.validD q.1=true
 | .nil,_,q,hq=>by simp[JM.toL]at hq
 | .cons k x r,h,q,hq=>by
  rw[qq]at h;rw[JM.toL]at hq;rcases List.mem_cons.1 hq with e | hq
  ·rw[e];exact h.1
  ·exact Ns r h.2.2 q hq
end
theorem Nt(v:JV)(hok:zF v)(htw:zy v=false)(t:TypeId)(p:Value)(w:Wo)(S:Nat->Prop)(h:zi w S v (.iface t p))(hS:∀ k,S k->k<w.heap.size)(hP:Jd w.heap.size w)(hl:(ct v).length<=10000000):
  Calls prog 100 #[.iface t p] w fun e w'=>e= .returned (.string (ze (ct v)))/\Bw w w':=by
 have d:=Nq h;have a:Bw w (w.alloc (.cells #[.pointer none,.slice none 0 0] 192)):=(yH _ _).alloc (ye _) _;have b:=zb (Nr v hok htw w.heap.size w.heap.size [] (w.alloc (.cells #[.pointer none,.slice none 0 0] 192)) S t p (zi.keep (fun k hk=>a.block k (hS k hk)) (fun _ h=>h) _ _ h) hS (Lib.fresh_isBuilder _ _ w) (by simp) (hP.next a (ye _)) (by simpa using hl));rw[List.nil_append]at b;have u:=d.meth;have g:=d.ent;clear h hS hP d hok htw;generalize wf v=f at *;generalize ct v=s at *;go_in;go_wp2_with fail;refine (uh b).mono ?_;rintro e n ⟨rfl,m,l,_⟩;have j:Bw w n:=a.trans l;have i:=j.size;have q:=zb (UU w.heap.size w.heap.size s n m i);clear m l b a u g;go_wp2_with fail;refine (uh q).mono ?_;rintro e x ⟨rfl,r⟩;have o:=j.trans r;go_wp2;go_ret;exact⟨rfl,o⟩
end Go.Proofs.YtekpghcckdjnhaaGreatDoor
namespace Go.Proofs.YtekpghcckdjnhaaGreatDoor
open Go.RowKit Go.Proofs.Tryz
theorem Li:∀ n:Nat,Lib.decDigits n=Zp n:=by
 intro n;induction n using Nat.strongRecOn with
 | _ n ih=>
  rw[Lib.decDigits];split
  ·rename_i h;rw[J0 h]
  ·rename_i h;rw[Ut h,ih (n / 10) (by omega),J0 (n:=n % 10) (by omega)]
theorem Nu{tx:TypeId}{vx vy:Value}{b:Bool}(hinfo:(prog.info? tx).map (·.comparable)=some true)(h:∀ (d:Nat) (w:Wo),(Op.equalIn (d+1) tx vx vy).run prog w= .ok b w)(w:Wo):
  (binOp .eql 66 (.iface tx vx) (.iface tx vy)).run prog w= .ok (.bool b) w:=by
 obtain⟨i,g,f⟩:=yz.1 hinfo;have a:∀ d:Nat,(Op.equalIn (d+1+1) 66 (.iface tx vx) (.iface tx vy)).run prog w= .ok b w:=fun d=>by
  rw[Op.equalIn];simp[run_underlying underlying66,typeInfo,g,f,h d]
 simp only[binOp];simp[Op.equal,Op.maxDepth,a 9998]
theorem zaM(z z':Int)(w:Wo):(binOp .eql 66 (.iface 296 (.int .i64 z)) (.iface 296 (.int .i64 z'))).run prog w= .ok (.bool (z ==z')) w:=
 Nu (by kernel_rfl) (fun d w=>by rw[Op.equalIn];simp[run_underlying underlying296]) w
theorem zaN(a b:Bs)(w:Wo):(binOp .eql 66 (.iface 229 (.string a)) (.iface 229 (.string b))).run prog w= .ok (.bool (a ==b)) w:=
 Nu (by kernel_rfl) (fun d w=>by rw[Op.equalIn];simp[run_underlying underlying229]) w
theorem XM(a b:Bool)(w:Wo):(binOp .eql 66 (.iface 258 (.bool a)) (.iface 258 (.bool b))).run prog w= .ok (.bool (a ==b)) w:=
 Nu (by kernel_rfl) (fun d w=>by rw[Op.equalIn];simp[run_underlying underlying258]) w
theorem XN{tp te:TypeId}(hinfo:(prog.info? tp).map (·.comparable)=some true)(hu:prog.underlying tp=some (.pointer te))(hz:∀ w:Wo,∃ n,n≠0/\(sizeOf te).run prog w= .ok n w)(a b:Nat)(hne:a≠b)(w:Wo){ca cb:Array Value}{ta tb:TypeId}(ha:w.heap[a]?=some (.cells ca ta (0,0)))(hb:w.heap[b]?=some (.cells cb tb (0,0))):
  (binOp .eql 66 (.iface tp (.pointer (some ⟨a,0,none⟩))) (.iface tp (.pointer (some ⟨b,0,none⟩)))).run prog w= .ok (.bool false) w:=by
 obtain⟨i,k,j⟩:=yz.1 hinfo;obtain⟨n,l,m⟩:=hz w;have f:(sameAddr ⟨a,0,none⟩ ⟨b,0,none⟩).run prog w= .ok false w:=run_sameAddr_other w (by intro e;injection e with e;exact hne e) ha hb;have h:∀ d:Nat,(Op.equalIn (d+1) tp (.pointer (some ⟨a,0,none⟩)) (.pointer (some ⟨b,0,none⟩))).run prog w= .ok false w:=fun d=>by
  rw[Op.equalIn];simp[run_underlying hu,m,l,f]
 have g:∀ d:Nat,(Op.equalIn (d+1+1) 66 (.iface tp (.pointer (some ⟨a,0,none⟩))) (.iface tp (.pointer (some ⟨b,0,none⟩)))).run prog w= .ok false w:=fun d=>by
  rw[Op.equalIn];simp[run_underlying underlying66,typeInfo,k,j,h d]
 simp only[binOp];simp[Op.equal,Op.maxDepth,g 9998]
theorem Lj(z:Int):(0<=z/\Lib.itoa z=Zp z.toNat)∨(z<0/\Lib.itoa z=45 :: Zp z.natAbs):=by
 unfold Lib.itoa;split
 ·exact .inr ⟨by omega,by rw[Li]⟩
 ·exact .inl ⟨by omega,by rw[Li]⟩
theorem zaO(z z':Int):(z ==z')=(Lib.itoa z ==Lib.itoa z'):=by
 rw[Bool.eq_iff_iff,yC,yC];constructor
 ·intro h;rw[h]
 ·intro h;rcases Lj z with ⟨a,b⟩ |⟨a,b⟩<;>rcases Lj z' with ⟨c,d⟩ |⟨c,d⟩<;>rw[b,d]at h
  ·have:=KM h;omega
  ·have f:=(FE z.toNat).2.1 45 (by rw[h];simp);exact absurd f (by decide)
  ·have f:=(FE z'.toNat).2.1 45 (by rw[← h];simp);exact absurd f (by decide)
  ·injection h with _ h;have:=KM h;omega
theorem zaP(a b:List UInt8):(ze a ==ze b)=(a ==b):=by
 show ((ze a).data ==(ze b).data)=_
 simp[ze]
def qa:JV->TypeId
 | .nul=>257
 | .tt=>258
 | .ff=>258
 | .num _=>296
 | .str _=>229
 | .arr _=>195
 | .obj _=>225
theorem Gr{w:Wo}{S:Nat->Prop}{a:JV}{v:Value}(h:zi w S a v):∃ q,v= .iface (qa a) q:=by
 cases a<;>rw[zi]at h
 ·exact⟨_,h⟩
 ·exact⟨_,h⟩
 ·exact⟨_,h⟩
 ·obtain⟨z,h,_⟩:=h;exact⟨_,h⟩
 ·exact⟨_,h⟩
 ·obtain⟨f,j,d,h,_⟩:=h;exact⟨_,h⟩
 ·obtain⟨i,b,g,d,h,_⟩:=h;exact⟨_,h⟩
theorem Lk{a b:JV}(h:qa a≠qa b):Vq a b=false:=by
 cases a<;>cases b<;>first | rfl | exact absurd rfl h
theorem zaQ(w:Wo):(binOp .eql 66 (.iface 257 (.agg #[])) (.iface 257 (.agg #[]))).run prog w= .ok (.bool true) w:=by kernel_rfl
theorem zaR{w:Wo}{S1 S2:Nat->Prop}(hd:∀ k,S1 k->¬ S2 k){a b:JV}{v1 v2:Value}(h1:zi w S1 a v1)(h2:zi w S2 b v2):(binOp .eql 66 v1 v2).run prog w= .ok (.bool (Vq a b)) w:=by
 have A:∀ w:Wo,∃ n,n≠0/\(sizeOf 198).run prog w= .ok n w:=fun w=>⟨1,by decide,by kernel_rfl⟩;have p:∀ w:Wo,∃ n,n≠0/\(sizeOf 228).run prog w= .ok n w:=fun w=>⟨1,by decide,by kernel_rfl⟩;by_cases d:qa a=qa b
 ·cases a with
  | nul=>cases b with
   | nul=>rw[zi]at h1 h2;subst h1;subst h2;exact zaQ w
   | _=>exact absurd d (by simp only[qa];decide)
  | tt=>cases b with
   | tt=>rw[zi]at h1 h2;subst h1;subst h2;exact XM true true w
   | ff=>rw[zi]at h1;rw[zi]at h2;subst h1;subst h2;exact XM true false w
   | _=>exact absurd d (by simp only[qa];decide)
  | ff=>cases b with
   | tt=>rw[zi]at h1;rw[zi]at h2;subst h1;subst h2;exact XM false true w
   | ff=>rw[zi]at h1 h2;subst h1;subst h2;exact XM false false w
   | _=>exact absurd d (by simp only[qa];decide)
  | num l=>cases b with
   | num m=>
    rw[zi]at h1 h2;obtain⟨z,h1,u,_⟩:=h1;obtain⟨H,h2,v,_⟩:=h2;subst h1;subst h2;rw[zaM,zaO,u,v];rfl
   | _=>exact absurd d (by simp only[qa];decide)
  | str l=>cases b with
   | str m=>rw[zi]at h1 h2;subst h1;subst h2;rw[zaN,zaP];rfl
   | _=>exact absurd d (by simp only[qa];decide)
  | arr l=>cases b with
   | arr m=>
    rw[zi]at h1 h2;obtain⟨r,G,B,h1,j,g,_⟩:=h1;obtain⟨f,y,q,h2,o,h,_⟩:=h2;subst h1;subst h2;exact XN (by kernel_rfl) underlying195 A r f (fun e=>hd r j (by rw[e];exact o)) w g h
   | _=>exact absurd d (by simp only[qa];decide)
  | obj l=>cases b with
   | obj m=>
    rw[zi]at h1 h2;obtain⟨s,b,D,B,h1,j,_,g,_⟩:=h1;obtain⟨i,C,x,q,h2,o,_,h,_⟩:=h2;subst h1;subst h2;exact XN (by kernel_rfl) underlying225 p s i (fun e=>hd s j (by rw[e];exact o)) w g h
   | _=>exact absurd d (by simp only[qa];decide)
 ·obtain⟨E,rfl⟩:=Gr h1;obtain⟨F,rfl⟩:=Gr h2;rw[Lk d];exact run_eql_iface_types _ _ _ _ underlying66 d w
end Go.Proofs.YtekpghcckdjnhaaGreatDoor
