import Derived.Test.YtpaecnbdoljafaaGreatDoorBp25
import Derived.Test.YtpaecnbdoljafaaGreatDoorBp27
import Derived.Stop.Asserts
set_option maxRecDepth 100000
set_option maxHeartbeats 8000000
namespace Go.Proofs.YtpaecnbdoljafaaGreatDoor
open Go.RowKit Go.Sort Go.Proofs.Tryz
theorem CZ{w:Wo}{b n:Nat}{xs:List (List UInt8×Value)}(h:w.ownsMap prog 9 RH b n (ZE xs))(key:List UInt8)(hk:key.length<=10000000)(v:Value)(hv:Q4 xs key=some v):
  (Instr.lookup 172 (.map (some b)) (.string (zi key)) false).run prog w= .ok v w:=by
 obtain⟨r,j,o,F,_,m⟩:=h;have g:keyOf prog 9 (.string (zi key))=some (.string key):=by
  have:=WideMaps.keyOf_string_mk underlying9 (s:=zi key) (by rw[zS];unfold maxLen;omega)
  rwa [Zd]at this
 have p:(zeroValue 61).run prog w= .ok .nilIface w:=by kernel_rfl
 have a:=fun z=>FE key z xs;rw[m]at a;rcases Maps.fit_look false (Maps.string_keyed underlying9) underlying172 p o F g with ⟨d,_,i⟩ |⟨q,y,_,_,d,k,i,_⟩
 ·have f:=(i (.held .nilIface)).symm.trans (a (.held .nilIface));have l:=(i (.held (.bool true))).symm.trans (a (.held (.bool true)));rw[hv]at f l;exact absurd (f.trans l.symm) (by intro e;injection e with e;cases e)
 ·injection k with k;subst k;have f:=(i (.held .nilIface)).symm.trans (a (.held .nilIface));rw[hv]at f;injection f with f;subst f;exact d
theorem Xd{w:Wo}{S:Nat->Prop}:∀ (m:JM) (xs:List (List UInt8×Value)),Zm w S m xs->xs.map (·.1)=qP m/\∀ k v,(k,v)∈m.toL->∃ x,(k,x)∈xs/\zl w S v x
 | .nil,xs,h=>by rw[Zm]at h;subst h;exact⟨rfl,fun k v h=>by simp[JM.toL]at h⟩
 | .cons k v r,xs,h=>by
  rw[Zm]at h;obtain⟨x,xs',rfl,h2,h3⟩:=h;obtain⟨d,f⟩:=Xd r xs' h3;refine⟨by simp[qP,d],fun k' v' a=>?_⟩;rcases List.mem_cons.1 a with e | a
  ·injection e with e1 e2;subst e1;subst e2;exact⟨x,yo,h2⟩
  ·obtain⟨g,hx,b⟩:=f k' v' a;exact⟨g,yu _ hx,b⟩
theorem Ol{k:List UInt8}{x:Value}:∀ xs:List (List UInt8×Value),(xs.map (·.1)).Nodup->(k,x)∈xs->Q4 xs k=some x:=by
 refine Ui (fun _ h=>by simp at h) ?_;rintro l ⟨f,i⟩ g b a;rw[FC];rw[yv,List.nodup_append]at b;rcases List.mem_append.1 a with a | a
 ·have d:¬ f=k:=fun e=>by
   subst e;exact b.2.2 f (yN.2 ⟨_,a,rfl⟩) f (by simp) rfl
  rw[ye d];exact g b.1 a
 ·simp at a;rw[yf a.1.symm,a.2]
theorem Om(x:List UInt8):∀ xs:List (List UInt8×Value),Maps.has (ZE xs) (.string x)=(xs.map (·.1)).contains x:=by
 refine Ui rfl ?_;rintro l ⟨k,v⟩ a;rw[Wp];by_cases h:x=k
 ·subst h;rw[Maps.has_put_same (FD l) (show WideAt.IsKeyLit (.string x)from trivial)];simp
 ·rw[Maps.has_put_other (by intro e;injection e with e;exact h e),a];simp only[yv,yh,List.map_nil];rw[Bool.eq_iff_iff];simp;intro e;exact absurd e h
theorem S6{w:Wo}{b n:Nat}{xs:List (List UInt8×Value)}(h:w.ownsMap prog 9 RH b n (ZE xs))(hnd:(xs.map (·.1)).Nodup):(xs.map (·.1)).Perm (strKeys (ZE xs)):=by
 obtain⟨g,f,l,_⟩:=h.entries (Maps.string_keyed underlying9);obtain⟨i,a,j⟩:=World.ownsMap.keysOf h;rw[f]at a;injection a with a;subst a;have k:∀ x,x∈xs.map (·.1)↔Maps.has (.map g) (.string x)=true:=fun x=>by rw[← f,Om];simp
 rw[f];refine perm_strKeys l (fun p hp'=>?_) hnd k;obtain⟨m,d⟩:=j p hp';obtain⟨x,_,hx,_⟩:=Maps.keyOf_str underlying9 d;exact⟨x,hx⟩
theorem S7{xs:List (List UInt8×Value)}{ks:List (List UInt8)}(h:ks.Perm (strKeys (ZE xs))):Maps.size (ZE xs)=ks.length:=by
 obtain⟨b,a⟩:=FD xs;rw[a]at h ⊢;have:=h.length_eq;simp[strKeys]at this;rw[this];rfl
theorem C0{w w':Wo}{B b n:Nat}{v:Value}{xs:List Value}(h:w.ownsRow B 9 1 v n xs)(hb:b<B)(hk:Qy b w w'):w'.ownsRow B 9 1 v n xs:=by
 refine⟨h.1,?_⟩;rcases h.2 with f |⟨g,a,d,k,i,j,r⟩
 ·exact .inl f
 ·exact .inr ⟨g,a,d,k,i,hk g _ j (by intro e;injection e with e;omega) (fun c fz e=>by injection e with _ e;cases e),r⟩
theorem C1(m:JM)(hall:∀ q∈m.toL,J4 q.2)(hval:∀ q∈m.toL,Lib.validD q.1=true)(hnd:(qP m).Nodup):J4 (.obj m):=by
 intro B b l0 w S t p h hS H hB hP P;rw[zl]at h;obtain⟨ob,mb,nn,u,h,hSob,L,hob,E,_,hrm⟩:=h;injection h with h1 h2;subst h1;subst h2;obtain⟨n,hrep⟩:=Xd m u hrm;have T:(u.map (·.1)).Nodup:=by rw[n];exact hnd
 have D:=S6 E T;have hct:ct (.obj m)=123 ::(joinC ((zz (zn m)).map zt)++[125]):=rfl;have hpl:(zz (zn m)).length=u.length:=by
  have a1:=congrArg List.length n;have a2:=congrArg List.length (Up m);simp only[yk]at a1 a2;rw[(qj _).length_eq];omega
 have hn:=S5 ((zz (zn m)).map zt);rw[yk]at hn;have hjt:l0.length+(joinC ((zz (zn m)).map zt)).length+2<=10000000:=by rw[hct]at P;simp at P;omega
 have hxn:u.length<=10000000:=by omega
 have U:ob<B:=hS _ hSob;have hbB:B<=b:=H.elim (fun x=>x.1) (fun x=>x.1);have hblt:b<w.heap.size:=H.lt;have hc0:w.cell? ⟨ob,0,none⟩=some (.map (some mb)):=by rw[yE hob];rfl
 have hsz:Maps.size (ZE u)=u.length:=by rw[S7 D,yk]
 have HSK:Hid (∀ W,Below B w W->Calls prog 199 #[.pointer (some ⟨ob,0,none⟩)] W fun e y=>∃ v,e= .returned v/\y.ownsRow W.heap.size 9 1 v u.length (((zz (zn m)).map (·.1)).map encStr)/\Bw W y):=fun W hb1=>by
  have hc1:W.cell? ⟨ob,0,none⟩=some (.map (some mb)):=(hb1.cell (p:=⟨ob,0,none⟩) U).trans hc0;refine (CY ob mb nn (ZE u) RH W hc1 (Vr E (hb1.block mb (hS _ L))) (by rw[hsz];unfold maxLen;omega) (by rw[hsz];omega)).mono ?_;rintro e y ⟨v,ss,rfl,hss,o,_,hb⟩;have hks:ss.Perm ((zn m).map (·.1)):=by
   rw[Up,← n];exact hss.trans D.symm
  have hl:ss.length=u.length:=by rw[hks.length_eq,Up,← n,yk]
  rw[Cf hks,hl]at o;exact⟨v,rfl,o,hb⟩
 have K:Hid (∀ k,(O:k<(zz (zn m)).length)->Lib.validD (zz (zn m))[k].1=true/\∃ t p f,Xb t p f/\(∀ X:Wo,Below B w X->(zz (zn m))[k].1.length<=10000000->(Instr.lookup 172 (.map (some mb)) (.string (zi (zz (zn m))[k].1)) false).run prog X= .ok (.iface t p) X) /\
   ∀ (acc:List UInt8) (wr:Wo),zH B b acc wr->Below B w wr->acc.length+(zz (zn m))[k].2.length<=10000000->Calls prog f #[p,.pointer (some ⟨b,0,none⟩)] wr fun e y=>e= .returned (.tuple #[])/\zH B b (acc++(zz (zn m))[k].2) y/\Below B wr y/\Qy b wr y):=by
  intro k O;have hmem:(zz (zn m))[k]∈zn m:=(qj _).subset (yq O);obtain⟨q,hq,he⟩:∃ q∈m.toL,(q.1,ct q.2)=(zz (zn m))[k]:=by
   have h2:=Qg m;generalize (zz (zn m))[k]=z at *;rw[h2]at hmem;exact yN.1 hmem
  have e1:(zz (zn m))[k].1=q.1:=by rw[← he]
  have e2:(zz (zn m))[k].2=ct q.2:=by rw[← he]
  rw[e1,e2];obtain⟨x,hx,hr⟩:=hrep q.1 q.2 hq;obtain⟨t,p,rfl⟩:=Gs hr;have hlast:=Ol u T hx;refine⟨hval q hq,t,p,wf q.2,Ok hr,fun X hX hkl=>?_,fun acc wr hI' hb' hl'=>?_⟩
  ·exact CZ (Vr E (hX.block mb (hS _ L))) q.1 hkl _ hlast
  ·exact hall q hq B b acc wr S t p (zl.keep (fun k O=>hb'.block k (hS k O)) (fun _ h=>h) _ _ hr) hS hI' (yO hB hb'.size) (hP.next hb' (yd _)) hl'
 have hl0:(Lib.byteCells l0).length<=10000000:=by rw[yJ];omega
 have HCT:=zh hct;generalize zz (zn m)=l at *;have HJ:Hid (∀ k (O:k<l.length),joinC ((l.map zt).take (k+1))=joinC ((l.map zt).take k)++(if k=0 then zt l[k]else 44 :: zt l[k])):=fun k O=>by
  have:=SY (l.map zt) k (by rw[yk];exact O);rw[this];simp
 have Z:Hid (∀ k,(joinC ((l.map zt).take k)).length<=(joinC (l.map zt)).length):=SZ (l.map zt);have HE:Hid ((l.map zt).take u.length=l.map zt):=yp (by rw[yk];omega);have F:Hid (∀ (acc:List UInt8) (c:Int) (c':UInt8) (wr:Wo),c=(c'.toNat:Int)->acc.length<=10000000->zH B b acc wr->B<=wr.heap.size->Calls prog 186 #[.pointer (some ⟨b,0,none⟩),.int .u8 c] wr fun e y=>e= .returned .nilIface/\zH B b (acc++[c']) y/\Below B wr y/\Qy b wr y):=fun acc c c' wr hc ha hI' hB'=>by
  refine (Wc B b _ c wr hI' (by rw[yJ];omega) hB').mono ?_;rintro e y ⟨rfl,h1,b1,k1⟩;exact⟨rfl,zH.byte hc h1,b1,k1⟩
 have HWS:Hid (∀ (acc:List UInt8) (d:List UInt8) (wr:Wo),Lib.validD d=true->acc.length+(quoted d).length<=10000000->zH B b acc wr->B<=wr.heap.size->Calls prog 313 #[.string (zi d),.pointer (some ⟨b,0,none⟩)] wr fun e y=>e= .returned (.tuple #[])/\zH B b (acc++quoted d) y/\Below B wr y/\Qy b wr y):=fun acc d wr hv ha hI' hB'=>by
  have hq:=Uu d;refine (Nj B b acc (zi d) wr hI' hB' (by omega) (by rw[zS];omega)).mono ?_;rintro e y ⟨rfl,h1,b1,k1⟩;have e:quoted d=34 ::(rs (zi d)++[34]):=by rw[Nm (zi d) (by rw[Zd];exact hv),Zd];rfl
  exact⟨rfl,by rw[e];exact h1,b1,k1⟩
 have HW0:=zh (uh F l0 123 123 w rfl (by omega) H hB);have HB:=zh hB;have HC0:Hid (∀ X:Wo,Below B w X->X.cell? ⟨ob,0,none⟩=some (.map (some mb))):=fun X hX=>(hX.cell (p:=⟨ob,0,none⟩) U).trans hc0;clear E hrm hrep n T D hS hP hob hct hall hval hnd P hn H hB hSob L hsz hc0 U;show Calls prog 315 _ _ _
 go_in;go_wp2_with fail;refine (uh HW0).mono ?_;rintro e W ⟨rfl,i1,b1,k1⟩;have HSK1:=zh (uh HSK W b1);have I1:=zh i1;have B1:=zh b1;have K1:=zh k1;have hw1:=b1.size;clear HW0 i1 b1 k1 HSK;go_wp2_with fail;refine (uh HSK1).mono ?_;rintro e w2 ⟨v2,rfl,o,b2⟩;have hw2:=b2.size;have I2:=zh (SW (uh I1) b2);have B2:=zh ((uh B1).trans (b2.mono (yO (uh HB) hw1)));have K2:=zh (Lib.OthersKept.below (uh K1) b2);obtain⟨a2,g2,c2,rfl,hadr,N⟩:∃ a g c,v2= .slice a u.length c/\(0<u.length->a=some ⟨g,0,none⟩)/\(∀ (wr:Wo),Qy b w2 wr->∀ j (hj:j<l.length),wr.cell? ⟨g,j,none⟩=some (.string (zi l[j].1))):=by
  rcases o.2 with ⟨hv,h0⟩ |⟨g,cap,cur,hv,_⟩
  ·exact⟨none,0,0,by rw[hv,h0],fun h=>by omega,fun wr O j hj=>by omega⟩
  ·refine⟨some ⟨g,0,none⟩,g,cap,hv,fun _=>rfl,fun wr O j hj=>?_⟩;subst hv;have:=(C0 o (by omega) O).cellAt j (by omega);rw[this];simp[hj];rfl
 have A:=zh N;clear N o HSK1 I1 B1 K1;go_wp2_with fail;go_loopw [11] (fun i wr=>∃ k:Nat,k<=u.length/\i= .int .i64 k/\zH B b (l0++123 :: joinC ((l.map zt).take k)) wr/\Below B w wr/\Qy b w2 wr) (fun i _=>u.length - (intOf i).toNat)
 case atStart=>exact⟨0,yr _,rfl,by have:=uh I2;simpa [joinC]using this,uh B2,Lib.OthersKept.refl _ _ _⟩
 case round=>
  obtain⟨k,O,rfl,H,hb,V⟩:=hrel;have G:B<=wr.heap.size:=yO (uh HB) hb.size;by_cases hlt:k<u.length
  ·have R:k<l.length:=by omega
   have hltI:(k:Int)<(u.length:Int):=by omega
   obtain rfl:=hadr (by omega);have hck:=uh A wr V k R;obtain⟨hkv,t,p,f,hw,Q,M⟩:=uh K k R;have J:=zh (uh HJ k R);have C:=uh Z (k+1);rw[uh J]at C;have hj0:=uh Z k;have hmp:=KV l[k];have HMT:Hid (zt l[k]=quoted l[k].1++58 :: l[k].2):=rfl;have hqg:=Uu l[k].1;generalize joinC ((l.map zt).take k)=jk at *;generalize l[k].1=d at *;generalize l[k].2=txt at *;generalize zt l[k]=mt at *;have hmet:=hw.meth;have hen:=hw.ent;have aa:=zh V;have HBW:=zh hb;have s:=zh Q;have r:=zh M;clear hw Q M V hb A HJ Z K;by_cases hk0:k=0
   ·rw[yf hk0]at J C;have tk:(0<k)=False:=yP (by omega);have hj2:jk.length+mt.length<=(joinC (l.map zt)).length:=by simpa using C
    have HS:=zh (uh HWS (l0++123 :: jk) d wr hkv (by simp;omega) H G);clear hk0 H C;go_wp2_with fail;refine (uh HS).mono ?_;rintro e w3 ⟨rfl,i3,b3,k3⟩;have B3:=zh ((uh HBW).trans b3);have K3:=zh ((uh aa).trans k3);have HC:=zh (uh F _ 58 58 w3 rfl (by simp;omega) i3 (yO G b3.size));clear HS i3 b3 k3 hck;go_wp2_with fail;refine (uh HC).mono ?_;rintro e w4 ⟨rfl,i4,b4,k4⟩;have Y:=zh ((uh B3).trans b4);have K4:=zh ((uh K3).trans k4);have hlk:=uh s w4 (uh Y) (by omega);have hcm:=uh HC0 w4 (uh Y);have I:=zh (uh r _ w4 i4 (uh Y) (by simp;omega));clear HC i4 b4 k4 s r B3 K3;go_wp2_with fail;refine (uh I).mono ?_;rintro e w5 ⟨rfl,i5,b5,k5⟩;clear I hlk hcm hmet hen;go_wp2;go_roundw
    case rel=>exact⟨k+1,by omega,by go_num,by rw[uh J,uh HMT];simpa using i5,(uh Y).trans b5,(uh K4).trans k5⟩
    case measure=>simp[intOf];omega
   ·rw[ye hk0]at J C;have tk:(0<k)=True:=eq_true (by omega);have hj2:jk.length+1+mt.length<=(joinC (l.map zt)).length:=by simp at C;omega
    have HCM:=zh (uh F (l0++123 :: jk) 44 44 wr rfl (by simp;omega) H G);clear hk0 H C;go_wp2_with fail;refine (uh HCM).mono ?_;rintro e w2' ⟨rfl,i2',ab,k2'⟩;have B2':=zh ((uh HBW).trans ab);have K2':=zh ((uh aa).trans k2');have HS:=zh (uh HWS _ d w2' hkv (by simp;omega) i2' (yO G ab.size));have hBr2:=yO G ab.size;clear HCM i2' ab k2' hck;go_wp2_with fail;refine (uh HS).mono ?_;rintro e w3 ⟨rfl,i3,b3,k3⟩;have B3:=zh ((uh B2').trans b3);have K3:=zh ((uh K2').trans k3);have HC:=zh (uh F _ 58 58 w3 rfl (by simp;omega) i3 (yO hBr2 b3.size));clear HS i3 b3 k3 B2' K2';go_wp2_with fail;refine (uh HC).mono ?_;rintro e w4 ⟨rfl,i4,b4,k4⟩;have Y:=zh ((uh B3).trans b4);have K4:=zh ((uh K3).trans k4);have hlk:=uh s w4 (uh Y) (by omega);have hcm:=uh HC0 w4 (uh Y);have I:=zh (uh r _ w4 i4 (uh Y) (by simp;omega));clear HC i4 b4 k4 s r B3 K3;go_wp2_with fail;refine (uh I).mono ?_;rintro e w5 ⟨rfl,i5,b5,k5⟩;clear I hlk hcm hmet hen;go_wp2;go_roundw
    case rel=>exact⟨k+1,by omega,by go_num,by rw[uh J,uh HMT];simpa using i5,(uh Y).trans b5,(uh K4).trans k5⟩
    case measure=>simp[intOf];omega
  ·have hk':k=u.length:=by omega
   subst hk';rw[uh HE]at H;have HWE:=zh (uh F (l0++123 :: joinC (l.map zt)) 125 125 wr rfl (by simp;omega) H G);have HB':=zh hb;have aa:=zh V;clear H hb V K HJ Z A F HWS;go_wp2_with fail;refine (uh HWE).mono ?_;rintro e w3 ⟨rfl,i3,b3,k3⟩;go_wp2;go_end0;exact⟨rfl,by rw[uh HCT];simpa using i3,(uh HB').trans b3,(uh K2).trans ((uh aa).trans k3)⟩
mutual
theorem On:∀ v:JV,zy v->zw v=false->J4 v
 | .nul,_,_=>CR
 | .tt,_,_=>CS
 | .ff,_,_=>CT
 | .num l,_,_=>CU l
 | .str l,h,_=>CV l (by rw[zy]at h;exact h)
 | .arr l,h,t=>CW l (S8 l (by rw[zy]at h;exact h) (by rw[zw]at t;exact t))
 | .obj m,h,t=>C1 m (S9 m [] (by rw[zy]at h;exact h) (by rw[zw]at t;exact t)) (Oo m (by rw[zy]at h;exact h)) (Us m [] (by rw[zw]at t;exact t)).1
theorem S8:∀ l:JL,Z8 l->ZG l=false->∀ v∈l.toL,J4 v
 | .nil,_,_,v,hv=>by simp[JL.toL]at hv
 | .cons x r,h,t,v,hv=>by
  rw[Z8]at h;rw[ZG,Bool.or_eq_false_iff]at t;rw[JL.toL]at hv;rcases List.mem_cons.1 hv with e | hv
  ·rw[e];exact On x h.1 t.1
  ·exact S8 r h.2 t.2 v hv
theorem S9:∀ (m:JM) (ks:List (List UInt8)),Z6 m->ZC ks m=false->∀ q∈m.toL,J4 q.2
 | .nil,_,_,_,q,hq=>by simp[JM.toL]at hq
 | .cons k x r,ks,h,t,q,hq=>by
  rw[Z6]at h;rw[ZC]at t;simp only[Bool.or_eq_false_iff]at t;rw[JM.toL]at hq;rcases List.mem_cons.1 hq with e | hq
  ·rw[e];exact On x h.2.1 t.1.1
  ·exact S9 r (ks++[k]) h.2.2 t.2 q hq
theorem Oo:∀ m:JM,Z6 m->∀ q∈m.toL,Lib.validD q.1=true
 | .nil,_,q,hq=>by simp[JM.toL]at hq
 | .cons k x r,h,q,hq=>by
  rw[Z6]at h;rw[JM.toL]at hq;rcases List.mem_cons.1 hq with e | hq
  ·rw[e];exact h.1
  ·exact Oo r h.2.2 q hq
end
theorem UD(v:JV)(hok:zy v)(htw:zw v=false)(t:TypeId)(p:Value)(w:Wo)(S:Nat->Prop)(h:zl w S v (.iface t p))(hS:∀ k,S k->k<w.heap.size)(hP:Qx w.heap.size w)(hl:(ct v).length<=10000000):
  Calls prog 36 #[.iface t p] w fun e w'=>e= .returned (.string (zi (ct v)))/\Bw w w':=by
 have b:=Ok h;have a:Bw w (w.alloc (.cells #[.pointer none,.slice none 0 0] 149)):=(yG _ _).alloc (yd _) _;have HC:=zh (On v hok htw w.heap.size w.heap.size [] (w.alloc (.cells #[.pointer none,.slice none 0 0] 149)) S t p (zl.keep (fun k hk=>a.block k (hS k hk)) (fun _ h=>h) _ _ h) hS (Lib.fresh_isBuilder _ _ w) (by simp) (hP.next a (yd _)) (by simpa using hl));rw[List.nil_append]at HC;have s:=b.meth;have d:=b.ent;clear h hS hP b hok htw;generalize wf v=f at *;generalize ct v=r at *;go_in;go_wp2_with fail;refine (uh HC).mono ?_;rintro e m ⟨rfl,l,j,_⟩;have i:Bw w m:=a.trans j;have g:=i.size;have o:=zh (WW w.heap.size w.heap.size r m l g);clear l j HC a s d;go_wp2_with fail;refine (uh o).mono ?_;rintro e u ⟨rfl,q⟩;have n:=i.trans q;go_wp2;go_ret;exact⟨rfl,n⟩
end Go.Proofs.YtpaecnbdoljafaaGreatDoor
namespace Go.Proofs.YtpaecnbdoljafaaGreatDoor
open Go.RowKit Go.Proofs.Tryz
def UE(w:Wo)(S:Nat->Prop):Option JV->Value->Prop
 | none,v=>v= .nilIface
 | some u,v=>zl w S u v
theorem UE.keep{w w':Wo}{S S':Nat->Prop}(hk:∀ k,S k->w'.heap[k]?=w.heap[k]?)(hS:∀ k,S k->S' k):∀ {o:Option JV} {v:Value},UE w S o v->UE w' S' o v
 | none,_,h=>h
 | some u,v,h=>zl.keep hk hS u v h
end Go.Proofs.YtpaecnbdoljafaaGreatDoor
