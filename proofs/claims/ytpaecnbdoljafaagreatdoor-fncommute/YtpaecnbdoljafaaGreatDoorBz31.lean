import Derived.Test.YtpaecnbdoljafaaGreatDoorBz28
import Derived.Test.YtpaecnbdoljafaaGreatDoorBz30
import Derived.Stop.Asserts
set_option maxRecDepth 100000
set_option maxHeartbeats 8000000
namespace Go.Proofs.YtpaecnbdoljafaaGreatDoor
open Go.RowKit Go.Sort Go.Proofs.Tryz
theorem Bk{w:Wo}{b n:Nat}{xs:List (List UInt8×Value)}(h:w.ownsMap prog 9 RH b n (zZ xs))(key:List UInt8)(hk:key.length<=10000000)(v:Value)(hv:Je xs key=some v):
  (Instr.lookup 172 (.map (some b)) (.string (zh key)) false).run prog w= .ok v w:=by
 obtain⟨r,j,o,F,_,m⟩:=h;have g:keyOf prog 9 (.string (zh key))=some (.string key):=by
  have:=WideMaps.keyOf_string_mk underlying9 (s:=zh key) (by rw[zN];unfold maxLen;omega)
  rwa [Za]at this
 have p:(zeroValue 61).run prog w= .ok .nilIface w:=by kernel_rfl
 have a:=fun z=>WJ key z xs;rw[m]at a;rcases Maps.fit_look false (Maps.string_keyed underlying9) underlying172 p o F g with ⟨d,_,i⟩ |⟨q,y,_,_,d,k,i,_⟩
 ·have f:=(i (.held .nilIface)).symm.trans (a (.held .nilIface));have l:=(i (.held (.bool true))).symm.trans (a (.held (.bool true)));rw[hv]at f l;exact absurd (f.trans l.symm) (by intro e;injection e with e;cases e)
 ·injection k with k;subst k;have f:=(i (.held .nilIface)).symm.trans (a (.held .nilIface));rw[hv]at f;injection f with f;subst f;exact d
theorem YB{w:Wo}{S:Nat->Prop}:∀ (m:JM) (xs:List (List UInt8×Value)),Zt w S m xs->xs.map (·.1)=Ql m/\∀ k v,(k,v)∈m.toL->∃ x,(k,x)∈xs/\zk w S v x
 | .nil,xs,h=>by rw[Zt]at h;subst h;exact⟨rfl,fun k v h=>by simp[JM.toL]at h⟩
 | .cons k v r,xs,h=>by
  rw[Zt]at h;obtain⟨x,xs',rfl,h2,h3⟩:=h;obtain⟨d,f⟩:=YB r xs' h3;refine⟨by simp[Ql,d],fun k' v' a=>?_⟩;rcases List.mem_cons.1 a with e | a
  ·injection e with e1 e2;subst e1;subst e2;exact⟨x,yq,h2⟩
  ·obtain⟨g,hx,b⟩:=f k' v' a;exact⟨g,yw _ hx,b⟩
theorem GU{k:List UInt8}{x:Value}:∀ xs:List (List UInt8×Value),(xs.map (·.1)).Nodup->(k,x)∈xs->Je xs k=some x:=by
 refine WI (fun _ h=>by simp at h) ?_;rintro l ⟨f,i⟩ g b a;rw[Re];rw[yx,List.nodup_append]at b;rcases List.mem_append.1 a with a | a
 ·have d:¬ f=k:=fun e=>by
   subst e;exact b.2.2 f (yP.2 ⟨_,a,rfl⟩) f (by simp) rfl
  rw[yf d];exact g b.1 a
 ·simp at a;rw[yg a.1.symm,a.2]
theorem WR(x:List UInt8):∀ xs:List (List UInt8×Value),Maps.has (zZ xs) (.string x)=(xs.map (·.1)).contains x:=by
 refine WI rfl ?_;rintro l ⟨k,v⟩ a;rw[Ga];by_cases h:x=k
 ·subst h;rw[Maps.has_put_same (Rf l) (show WideAt.IsKeyLit (.string x)from trivial)];simp
 ·rw[Maps.has_put_other (by intro e;injection e with e;exact h e),a];simp only[yx,yi,List.map_nil];rw[Bool.eq_iff_iff];simp;intro e;exact absurd e h
theorem WS{w:Wo}{b n:Nat}{xs:List (List UInt8×Value)}(h:w.ownsMap prog 9 RH b n (zZ xs))(hnd:(xs.map (·.1)).Nodup):(xs.map (·.1)).Perm (strKeys (zZ xs)):=by
 obtain⟨g,f,l,_⟩:=h.entries (Maps.string_keyed underlying9);obtain⟨i,a,j⟩:=World.ownsMap.keysOf h;rw[f]at a;injection a with a;subst a;have k:∀ x,x∈xs.map (·.1)↔Maps.has (.map g) (.string x)=true:=fun x=>by rw[← f,WR];simp
 rw[f];refine perm_strKeys l (fun p hp'=>?_) hnd k;obtain⟨m,d⟩:=j p hp';obtain⟨x,_,hx,_⟩:=Maps.keyOf_str underlying9 d;exact⟨x,hx⟩
theorem WT{xs:List (List UInt8×Value)}{ks:List (List UInt8)}(h:ks.Perm (strKeys (zZ xs))):Maps.size (zZ xs)=ks.length:=by
 obtain⟨b,a⟩:=Rf xs;rw[a]at h ⊢;have:=h.length_eq;simp[strKeys]at this;rw[this];rfl
theorem zda{w w':Wo}{B b n:Nat}{v:Value}{xs:List Value}(h:w.ownsRow B 9 1 v n xs)(hb:b<B)(hk:Ji b w w'):w'.ownsRow B 9 1 v n xs:=by
 refine⟨h.1,?_⟩;rcases h.2 with f |⟨g,a,d,k,i,j,r⟩
 ·exact .inl f
 ·exact .inr ⟨g,a,d,k,i,hk g _ j (by intro e;injection e with e;omega) (fun c fz e=>by injection e with _ e;cases e),r⟩
theorem zdb(m:JM)(hall:∀ q∈m.toL,YS q.2)(hval:∀ q∈m.toL,Lib.validD q.1=true)(hnd:(Ql m).Nodup):YS (.obj m):=by
 intro B b l0 w S t p h hS H hB hP P;rw[zk]at h;obtain⟨ob,mb,nn,u,h,hSob,L,hob,E,_,hrm⟩:=h;injection h with h1 h2;subst h1;subst h2;obtain⟨n,hrep⟩:=YB m u hrm;have T:(u.map (·.1)).Nodup:=by rw[n];exact hnd
 have D:=WS E T;have hct:ct (.obj m)=123 ::(joinC ((zJ (zl m)).map zz)++[125]):=rfl;have hpl:(zJ (zl m)).length=u.length:=by
  have a1:=congrArg List.length n;have a2:=congrArg List.length (WA m);simp only[yl]at a1 a2;rw[(qw _).length_eq];omega
 have hn:=Tr ((zJ (zl m)).map zz);rw[yl]at hn;have hjt:l0.length+(joinC ((zJ (zl m)).map zz)).length+2<=10000000:=by rw[hct]at P;simp at P;omega
 have hxn:u.length<=10000000:=by omega
 have U:ob<B:=hS _ hSob;have hbB:B<=b:=H.elim (fun x=>x.1) (fun x=>x.1);have hblt:b<w.heap.size:=H.lt;have hc0:w.cell? ⟨ob,0,none⟩=some (.map (some mb)):=by rw[yG hob];rfl
 have hsz:Maps.size (zZ u)=u.length:=by rw[WT D,yl]
 have HSK:Hid (∀ W,Below B w W->Calls prog 199 #[.pointer (some ⟨ob,0,none⟩)] W fun e y=>∃ v,e= .returned v/\y.ownsRow W.heap.size 9 1 v u.length (((zJ (zl m)).map (·.1)).map encStr)/\Bw W y):=fun W hb1=>by
  have hc1:W.cell? ⟨ob,0,none⟩=some (.map (some mb)):=(hb1.cell (p:=⟨ob,0,none⟩) U).trans hc0;refine (Bj ob mb nn (zZ u) RH W hc1 (YR E (hb1.block mb (hS _ L))) (by rw[hsz];unfold maxLen;omega) (by rw[hsz];omega)).mono ?_;rintro e y ⟨v,ss,rfl,hss,o,_,hb⟩;have hks:ss.Perm ((zl m).map (·.1)):=by
   rw[WA,← n];exact hss.trans D.symm
  have hl:ss.length=u.length:=by rw[hks.length_eq,WA,← n,yl]
  rw[My hks,hl]at o;exact⟨v,rfl,o,hb⟩
 have K:Hid (∀ k,(O:k<(zJ (zl m)).length)->Lib.validD (zJ (zl m))[k].1=true/\∃ t p f,FG t p f/\(∀ X:Wo,Below B w X->(zJ (zl m))[k].1.length<=10000000->(Instr.lookup 172 (.map (some mb)) (.string (zh (zJ (zl m))[k].1)) false).run prog X= .ok (.iface t p) X) /\
   ∀ (acc:List UInt8) (wr:Wo),zU B b acc wr->Below B w wr->acc.length+(zJ (zl m))[k].2.length<=10000000->Calls prog f #[p,.pointer (some ⟨b,0,none⟩)] wr fun e y=>e= .returned (.tuple #[])/\zU B b (acc++(zJ (zl m))[k].2) y/\Below B wr y/\Ji b wr y):=by
  intro k O;have hmem:(zJ (zl m))[k]∈zl m:=(qw _).subset (yt O);obtain⟨q,hq,he⟩:∃ q∈m.toL,(q.1,ct q.2)=(zJ (zl m))[k]:=by
   have h2:=qh m;generalize (zJ (zl m))[k]=z at *;rw[h2]at hmem;exact yP.1 hmem
  have e1:(zJ (zl m))[k].1=q.1:=by rw[← he]
  have e2:(zJ (zl m))[k].2=ct q.2:=by rw[← he]
  rw[e1,e2];obtain⟨x,hx,hr⟩:=hrep q.1 q.2 hq;obtain⟨t,p,rfl⟩:=Qe hr;have hlast:=GU u T hx;refine⟨hval q hq,t,p,wf q.2,Rr hr,fun X hX hkl=>?_,fun acc wr hI' hb' hl'=>?_⟩
  ·exact Bk (YR E (hX.block mb (hS _ L))) q.1 hkl _ hlast
  ·exact hall q hq B b acc wr S t p (zk.keep (fun k O=>hb'.block k (hS k O)) (fun _ h=>h) _ _ hr) hS hI' (yQ hB hb'.size) (hP.next hb' (ye _)) hl'
 have hl0:(Lib.byteCells l0).length<=10000000:=by rw[yL];omega
 have HCT:=ze hct;generalize zJ (zl m)=l at *;have HJ:Hid (∀ k (O:k<l.length),joinC ((l.map zz).take (k+1))=joinC ((l.map zz).take k)++(if k=0 then zz l[k]else 44 :: zz l[k])):=fun k O=>by
  have:=Tp (l.map zz) k (by rw[yl];exact O);rw[this];simp
 have Z:Hid (∀ k,(joinC ((l.map zz).take k)).length<=(joinC (l.map zz)).length):=Tq (l.map zz);have HE:Hid ((l.map zz).take u.length=l.map zz):=yr (by rw[yl];omega);have F:Hid (∀ (acc:List UInt8) (c:Int) (c':UInt8) (wr:Wo),c=(c'.toNat:Int)->acc.length<=10000000->zU B b acc wr->B<=wr.heap.size->Calls prog 186 #[.pointer (some ⟨b,0,none⟩),.int .u8 c] wr fun e y=>e= .returned .nilIface/\zU B b (acc++[c']) y/\Below B wr y/\Ji b wr y):=fun acc c c' wr hc ha hI' hB'=>by
  refine (Uo B b _ c wr hI' (by rw[yL];omega) hB').mono ?_;rintro e y ⟨rfl,h1,b1,k1⟩;exact⟨rfl,zU.byte hc h1,b1,k1⟩
 have HWS:Hid (∀ (acc:List UInt8) (d:List UInt8) (wr:Wo),Lib.validD d=true->acc.length+(quoted d).length<=10000000->zU B b acc wr->B<=wr.heap.size->Calls prog 313 #[.string (zh d),.pointer (some ⟨b,0,none⟩)] wr fun e y=>e= .returned (.tuple #[])/\zU B b (acc++quoted d) y/\Below B wr y/\Ji b wr y):=fun acc d wr hv ha hI' hB'=>by
  have hq:=KF d;refine (SX B b acc (zh d) wr hI' hB' (by omega) (by rw[zN];omega)).mono ?_;rintro e y ⟨rfl,h1,b1,k1⟩;have e:quoted d=34 ::(rs (zh d)++[34]):=by rw[S8 (zh d) (by rw[Za];exact hv),Za];rfl
  exact⟨rfl,by rw[e];exact h1,b1,k1⟩
 have HW0:=ze (uh F l0 123 123 w rfl (by omega) H hB);have HB:=ze hB;have HC0:Hid (∀ X:Wo,Below B w X->X.cell? ⟨ob,0,none⟩=some (.map (some mb))):=fun X hX=>(hX.cell (p:=⟨ob,0,none⟩) U).trans hc0;clear E hrm hrep n T D hS hP hob hct hall hval hnd P hn H hB hSob L hsz hc0 U;show Calls prog 315 _ _ _
 go_in;go_wp2_with fail;refine (uh HW0).mono ?_;rintro e W ⟨rfl,i1,b1,k1⟩;have HSK1:=ze (uh HSK W b1);have I1:=ze i1;have B1:=ze b1;have K1:=ze k1;have hw1:=b1.size;clear HW0 i1 b1 k1 HSK;go_wp2_with fail;refine (uh HSK1).mono ?_;rintro e w2 ⟨v2,rfl,o,b2⟩;have hw2:=b2.size;have I2:=ze (Tm (uh I1) b2);have B2:=ze ((uh B1).trans (b2.mono (yQ (uh HB) hw1)));have K2:=ze (Lib.OthersKept.below (uh K1) b2);obtain⟨a2,g2,c2,rfl,hadr,N⟩:∃ a g c,v2= .slice a u.length c/\(0<u.length->a=some ⟨g,0,none⟩)/\(∀ (wr:Wo),Ji b w2 wr->∀ j (hj:j<l.length),wr.cell? ⟨g,j,none⟩=some (.string (zh l[j].1))):=by
  rcases o.2 with ⟨hv,h0⟩ |⟨g,cap,cur,hv,_⟩
  ·exact⟨none,0,0,by rw[hv,h0],fun h=>by omega,fun wr O j hj=>by omega⟩
  ·refine⟨some ⟨g,0,none⟩,g,cap,hv,fun _=>rfl,fun wr O j hj=>?_⟩;subst hv;have:=(zda o (by omega) O).cellAt j (by omega);rw[this];simp[hj];rfl
 have A:=ze N;clear N o HSK1 I1 B1 K1;go_wp2_with fail;go_loopw [11] (fun i wr=>∃ k:Nat,k<=u.length/\i= .int .i64 k/\zU B b (l0++123 :: joinC ((l.map zz).take k)) wr/\Below B w wr/\Ji b w2 wr) (fun i _=>u.length - (intOf i).toNat)
 case atStart=>exact⟨0,yu _,rfl,by have:=uh I2;simpa [joinC]using this,uh B2,Lib.OthersKept.refl _ _ _⟩
 case round=>
  obtain⟨k,O,rfl,H,hb,V⟩:=hrel;have G:B<=wr.heap.size:=yQ (uh HB) hb.size;by_cases hlt:k<u.length
  ·have R:k<l.length:=by omega
   have hltI:(k:Int)<(u.length:Int):=by omega
   obtain rfl:=hadr (by omega);have hck:=uh A wr V k R;obtain⟨hkv,t,p,f,hw,Q,M⟩:=uh K k R;have J:=ze (uh HJ k R);have C:=uh Z (k+1);rw[uh J]at C;have hj0:=uh Z k;have hmp:=PY l[k];have HMT:Hid (zz l[k]=quoted l[k].1++58 :: l[k].2):=rfl;have hqg:=KF l[k].1;generalize joinC ((l.map zz).take k)=jk at *;generalize l[k].1=d at *;generalize l[k].2=txt at *;generalize zz l[k]=mt at *;have hmet:=hw.meth;have hen:=hw.ent;have aa:=ze V;have HBW:=ze hb;have s:=ze Q;have r:=ze M;clear hw Q M V hb A HJ Z K;by_cases hk0:k=0
   ·rw[yg hk0]at J C;have tk:(0<k)=False:=yR (by omega);have hj2:jk.length+mt.length<=(joinC (l.map zz)).length:=by simpa using C
    have HS:=ze (uh HWS (l0++123 :: jk) d wr hkv (by simp;omega) H G);clear hk0 H C;go_wp2_with fail;refine (uh HS).mono ?_;rintro e w3 ⟨rfl,i3,b3,k3⟩;have B3:=ze ((uh HBW).trans b3);have K3:=ze ((uh aa).trans k3);have HC:=ze (uh F _ 58 58 w3 rfl (by simp;omega) i3 (yQ G b3.size));clear HS i3 b3 k3 hck;go_wp2_with fail;refine (uh HC).mono ?_;rintro e w4 ⟨rfl,i4,b4,k4⟩;have Y:=ze ((uh B3).trans b4);have K4:=ze ((uh K3).trans k4);have hlk:=uh s w4 (uh Y) (by omega);have hcm:=uh HC0 w4 (uh Y);have I:=ze (uh r _ w4 i4 (uh Y) (by simp;omega));clear HC i4 b4 k4 s r B3 K3;go_wp2_with fail;refine (uh I).mono ?_;rintro e w5 ⟨rfl,i5,b5,k5⟩;clear I hlk hcm hmet hen;go_wp2;go_roundw
    case rel=>exact⟨k+1,by omega,by go_num,by rw[uh J,uh HMT];simpa using i5,(uh Y).trans b5,(uh K4).trans k5⟩
    case measure=>simp[intOf];omega
   ·rw[yf hk0]at J C;have tk:(0<k)=True:=eq_true (by omega);have hj2:jk.length+1+mt.length<=(joinC (l.map zz)).length:=by simp at C;omega
    have HCM:=ze (uh F (l0++123 :: jk) 44 44 wr rfl (by simp;omega) H G);clear hk0 H C;go_wp2_with fail;refine (uh HCM).mono ?_;rintro e w2' ⟨rfl,i2',ab,k2'⟩;have B2':=ze ((uh HBW).trans ab);have K2':=ze ((uh aa).trans k2');have HS:=ze (uh HWS _ d w2' hkv (by simp;omega) i2' (yQ G ab.size));have hBr2:=yQ G ab.size;clear HCM i2' ab k2' hck;go_wp2_with fail;refine (uh HS).mono ?_;rintro e w3 ⟨rfl,i3,b3,k3⟩;have B3:=ze ((uh B2').trans b3);have K3:=ze ((uh K2').trans k3);have HC:=ze (uh F _ 58 58 w3 rfl (by simp;omega) i3 (yQ hBr2 b3.size));clear HS i3 b3 k3 B2' K2';go_wp2_with fail;refine (uh HC).mono ?_;rintro e w4 ⟨rfl,i4,b4,k4⟩;have Y:=ze ((uh B3).trans b4);have K4:=ze ((uh K3).trans k4);have hlk:=uh s w4 (uh Y) (by omega);have hcm:=uh HC0 w4 (uh Y);have I:=ze (uh r _ w4 i4 (uh Y) (by simp;omega));clear HC i4 b4 k4 s r B3 K3;go_wp2_with fail;refine (uh I).mono ?_;rintro e w5 ⟨rfl,i5,b5,k5⟩;clear I hlk hcm hmet hen;go_wp2;go_roundw
    case rel=>exact⟨k+1,by omega,by go_num,by rw[uh J,uh HMT];simpa using i5,(uh Y).trans b5,(uh K4).trans k5⟩
    case measure=>simp[intOf];omega
  ·have hk':k=u.length:=by omega
   subst hk';rw[uh HE]at H;have HWE:=ze (uh F (l0++123 :: joinC (l.map zz)) 125 125 wr rfl (by simp;omega) H G);have HB':=ze hb;have aa:=ze V;clear H hb V K HJ Z A F HWS;go_wp2_with fail;refine (uh HWE).mono ?_;rintro e w3 ⟨rfl,i3,b3,k3⟩;go_wp2;go_end0;exact⟨rfl,by rw[uh HCT];simpa using i3,(uh HB').trans b3,(uh K2).trans ((uh aa).trans k3)⟩
mutual
theorem RN:∀ v:JV,zD v->zw v=false->YS v
 | .nul,_,_=>zch
 | .tt,_,_=>zci
 | .ff,_,_=>zcj
 | .num l,_,_=>zck l
 | .str l,h,_=>zcl l (by rw[zD]at h;exact h)
 | .arr l,h,t=>zcm l (Bl l (by rw[zD]at h;exact h) (by rw[zw]at t;exact t))
 | .obj m,h,t=>zdb m (Bm m [] (by rw[zD]at h;exact h) (by rw[zw]at t;exact t)) (RO m (by rw[zD]at h;exact h)) (WD m [] (by rw[zw]at t;exact t)).1
theorem Bl:∀ l:JL,qJ l->qd l=false->∀ v∈l.toL,YS v
 | .nil,_,_,v,hv=>by simp[JL.toL]at hv
 | .cons x r,h,t,v,hv=>by
  rw[qJ]at h;rw[qd,Bool.or_eq_false_iff]at t;rw[JL.toL]at hv;rcases List.mem_cons.1 hv with e | hv
  ·rw[e];exact RN x h.1 t.1
  ·exact Bl r h.2 t.2 v hv
theorem Bm:∀ (m:JM) (ks:List (List UInt8)),qG m->ZW ks m=false->∀ q∈m.toL,YS q.2
 | .nil,_,_,_,q,hq=>by simp[JM.toL]at hq
 | .cons k x r,ks,h,t,q,hq=>by
  rw[qG]at h;rw[ZW]at t;simp only[Bool.or_eq_false_iff]at t;rw[JM.toL]at hq;rcases List.mem_cons.1 hq with e | hq
  ·rw[e];exact RN x h.2.1 t.1.1
  ·exact Bm r (ks++[k]) h.2.2 t.2 q hq
theorem RO:∀ m:JM,qG m->∀ q∈m.toL,Lib.validD q.1=true
 | .nil,_,q,hq=>by simp[JM.toL]at hq
 | .cons k x r,h,q,hq=>by
  rw[qG]at h;rw[JM.toL]at hq;rcases List.mem_cons.1 hq with e | hq
  ·rw[e];exact h.1
  ·exact RO r h.2.2 q hq
end
theorem K0(v:JV)(hok:zD v)(htw:zw v=false)(t:TypeId)(p:Value)(w:Wo)(S:Nat->Prop)(h:zk w S v (.iface t p))(hS:∀ k,S k->k<w.heap.size)(hP:QE w.heap.size w)(hl:(ct v).length<=10000000):
  Calls prog 36 #[.iface t p] w fun e w'=>e= .returned (.string (zh (ct v)))/\Bw w w':=by
 have b:=Rr h;have a:Bw w (w.alloc (.cells #[.pointer none,.slice none 0 0] 149)):=(yI _ _).alloc (ye _) _;have HC:=ze (RN v hok htw w.heap.size w.heap.size [] (w.alloc (.cells #[.pointer none,.slice none 0 0] 149)) S t p (zk.keep (fun k hk=>a.block k (hS k hk)) (fun _ h=>h) _ _ h) hS (Lib.fresh_isBuilder _ _ w) (by simp) (hP.next a (ye _)) (by simpa using hl));rw[List.nil_append]at HC;have s:=b.meth;have d:=b.ent;clear h hS hP b hok htw;generalize wf v=f at *;generalize ct v=r at *;go_in;go_wp2_with fail;refine (uh HC).mono ?_;rintro e m ⟨rfl,l,j,_⟩;have i:Bw w m:=a.trans j;have g:=i.size;have o:=ze (Kb w.heap.size w.heap.size r m l g);clear l j HC a s d;go_wp2_with fail;refine (uh o).mono ?_;rintro e u ⟨rfl,q⟩;have n:=i.trans q;go_wp2;go_ret;exact⟨rfl,n⟩
end Go.Proofs.YtpaecnbdoljafaaGreatDoor
namespace Go.Proofs.YtpaecnbdoljafaaGreatDoor
open Go.RowKit Go.Proofs.Tryz
theorem Bn:∀ n:Nat,Lib.decDigits n=zM n:=by
 intro n;induction n using Nat.strongRecOn with
 | _ n ih=>
  rw[Lib.decDigits];split
  ·rename_i h;rw[Jb h]
  ·rename_i h;rw[GD h,ih (n / 10) (by omega),Jb (n:=n % 10) (by omega)]
theorem RP{tx:TypeId}{vx vy:Value}{b:Bool}(hinfo:(prog.info? tx).map (·.comparable)=some true)(h:∀ (d:Nat) (w:Wo),(Op.equalIn (d+1) tx vx vy).run prog w= .ok b w)(w:Wo):
  (binOp .eql 61 (.iface tx vx) (.iface tx vy)).run prog w= .ok (.bool b) w:=by
 obtain⟨i,g,f⟩:=yA.1 hinfo;have a:∀ d:Nat,(Op.equalIn (d+1+1) 61 (.iface tx vx) (.iface tx vy)).run prog w= .ok b w:=fun d=>by
  rw[Op.equalIn];simp[run_underlying underlying61,typeInfo,g,f,h d]
 simp only[binOp];simp[Op.equal,Op.maxDepth,a 9998]
theorem zdc(tx:TypeId)(vx:Value)(w:Wo):(binOp .eql 61 (.iface tx vx) .nilIface).run prog w= .ok (.bool false) w:=by
 have h:∀ d:Nat,(Op.equalIn (d+1) 61 (.iface tx vx) .nilIface).run prog w= .ok false w:=fun d=>by
  rw[Op.equalIn];simp[run_underlying underlying61]
 simp only[binOp];simp[Op.equal,Op.maxDepth,h 9999]
theorem zdd(tx:TypeId)(vx:Value)(w:Wo):(binOp .eql 61 .nilIface (.iface tx vx)).run prog w= .ok (.bool false) w:=by
 have h:∀ d:Nat,(Op.equalIn (d+1) 61 .nilIface (.iface tx vx)).run prog w= .ok false w:=fun d=>by
  rw[Op.equalIn];simp[run_underlying underlying61]
 simp only[binOp];simp[Op.equal,Op.maxDepth,h 9999]
theorem zde(z z':Int)(w:Wo):(binOp .eql 61 (.iface 277 (.int .i64 z)) (.iface 277 (.int .i64 z'))).run prog w= .ok (.bool (z ==z')) w:=
 RP (by kernel_rfl) (fun d w=>by rw[Op.equalIn];simp[run_underlying underlying277]) w
theorem zdf(a b:Bs)(w:Wo):(binOp .eql 61 (.iface 171 (.string a)) (.iface 171 (.string b))).run prog w= .ok (.bool (a ==b)) w:=
 RP (by kernel_rfl) (fun d w=>by rw[Op.equalIn];simp[run_underlying underlying171]) w
theorem FR(a b:Bool)(w:Wo):(binOp .eql 61 (.iface 238 (.bool a)) (.iface 238 (.bool b))).run prog w= .ok (.bool (a ==b)) w:=
 RP (by kernel_rfl) (fun d w=>by rw[Op.equalIn];simp[run_underlying underlying238]) w
theorem FS{tp te:TypeId}(hinfo:(prog.info? tp).map (·.comparable)=some true)(hu:prog.underlying tp=some (.pointer te))(hz:∀ w:Wo,∃ n,n≠0/\(sizeOf te).run prog w= .ok n w)(a b:Nat)(hne:a≠b)(w:Wo){ca cb:Array Value}{ta tb:TypeId}(ha:w.heap[a]?=some (.cells ca ta (0,0)))(hb:w.heap[b]?=some (.cells cb tb (0,0))):
  (binOp .eql 61 (.iface tp (.pointer (some ⟨a,0,none⟩))) (.iface tp (.pointer (some ⟨b,0,none⟩)))).run prog w= .ok (.bool false) w:=by
 obtain⟨i,k,j⟩:=yA.1 hinfo;obtain⟨n,l,m⟩:=hz w;have f:(sameAddr ⟨a,0,none⟩ ⟨b,0,none⟩).run prog w= .ok false w:=run_sameAddr_other w (by intro e;injection e with e;exact hne e) ha hb;have h:∀ d:Nat,(Op.equalIn (d+1) tp (.pointer (some ⟨a,0,none⟩)) (.pointer (some ⟨b,0,none⟩))).run prog w= .ok false w:=fun d=>by
  rw[Op.equalIn];simp[run_underlying hu,m,l,f]
 have g:∀ d:Nat,(Op.equalIn (d+1+1) 61 (.iface tp (.pointer (some ⟨a,0,none⟩))) (.iface tp (.pointer (some ⟨b,0,none⟩)))).run prog w= .ok false w:=fun d=>by
  rw[Op.equalIn];simp[run_underlying underlying61,typeInfo,k,j,h d]
 simp only[binOp];simp[Op.equal,Op.maxDepth,g 9998]
def QS(w:Wo)(S:Nat->Prop):Option JV->Value->Prop
 | none,v=>v= .nilIface
 | some u,v=>zk w S u v
theorem QS.keep{w w':Wo}{S S':Nat->Prop}(hk:∀ k,S k->w'.heap[k]?=w.heap[k]?)(hS:∀ k,S k->S' k):∀ {o:Option JV} {v:Value},QS w S o v->QS w' S' o v
 | none,_,h=>h
 | some u,v,h=>zk.keep hk hS u v h
def FT:Option JV->Option JV->Bool
 | some a,some b=>Qo a b
 | _,_=>false
theorem Bo(z:Int):(0<=z/\Lib.itoa z=zM z.toNat)∨(z<0/\Lib.itoa z=45 :: zM z.natAbs):=by
 unfold Lib.itoa;split
 ·exact .inr ⟨by omega,by rw[Bn]⟩
 ·exact .inl ⟨by omega,by rw[Bn]⟩
theorem zdg(z z':Int):(z ==z')=(Lib.itoa z ==Lib.itoa z'):=by
 rw[Bool.eq_iff_iff,yD,yD];constructor
 ·intro h;rw[h]
 ·intro h;rcases Bo z with ⟨a,b⟩ |⟨a,b⟩<;>rcases Bo z' with ⟨c,d⟩ |⟨c,d⟩<;>rw[b,d]at h
  ·have:=WN h;omega
  ·have f:=(KO z.toNat).2.1 45 (by rw[h];simp);exact absurd f (by decide)
  ·have f:=(KO z'.toNat).2.1 45 (by rw[← h];simp);exact absurd f (by decide)
  ·injection h with _ h;have:=WN h;omega
theorem zdh(a b:List UInt8):(zh a ==zh b)=(a ==b):=by
 show ((zh a).data ==(zh b).data)=_
 simp[zh]
def qm:JV->TypeId
 | .nul=>237
 | .tt=>238
 | .ff=>238
 | .num _=>277
 | .str _=>171
 | .arr _=>102
 | .obj _=>173
theorem VB{w:Wo}{S:Nat->Prop}{a:JV}{v:Value}(h:zk w S a v):∃ q,v= .iface (qm a) q:=by
 cases a<;>rw[zk]at h
 ·exact⟨_,h⟩
 ·exact⟨_,h⟩
 ·exact⟨_,h⟩
 ·obtain⟨z,h,_⟩:=h;exact⟨_,h⟩
 ·exact⟨_,h⟩
 ·obtain⟨f,j,d,h,_⟩:=h;exact⟨_,h⟩
 ·obtain⟨i,b,g,d,h,_⟩:=h;exact⟨_,h⟩
theorem Bp{a b:JV}(h:qm a≠qm b):Qo a b=false:=by
 cases a<;>cases b<;>first | rfl | exact absurd rfl h
theorem zdi(w:Wo):(binOp .eql 61 (.iface 237 (.agg #[])) (.iface 237 (.agg #[]))).run prog w= .ok (.bool true) w:=by kernel_rfl
theorem FU{w:Wo}{S1 S2:Nat->Prop}(hd:∀ k,S1 k->¬ S2 k){a b:JV}{v1 v2:Value}(h1:zk w S1 a v1)(h2:zk w S2 b v2):(binOp .eql 61 v1 v2).run prog w= .ok (.bool (Qo a b)) w:=by
 have x:∀ w:Wo,∃ n,n≠0/\(sizeOf 105).run prog w= .ok n w:=fun w=>⟨1,by decide,by kernel_rfl⟩;have j:∀ w:Wo,∃ n,n≠0/\(sizeOf 175).run prog w= .ok n w:=fun w=>⟨1,by decide,by kernel_rfl⟩;by_cases d:qm a=qm b
 ·cases a with
  | nul=>cases b with
   | nul=>rw[zk]at h1 h2;subst h1;subst h2;exact zdi w
   | _=>exact absurd d (by simp only[qm];decide)
  | tt=>cases b with
   | tt=>rw[zk]at h1 h2;subst h1;subst h2;exact FR true true w
   | ff=>rw[zk]at h1;rw[zk]at h2;subst h1;subst h2;exact FR true false w
   | _=>exact absurd d (by simp only[qm];decide)
  | ff=>cases b with
   | tt=>rw[zk]at h1;rw[zk]at h2;subst h1;subst h2;exact FR false true w
   | ff=>rw[zk]at h1 h2;subst h1;subst h2;exact FR false false w
   | _=>exact absurd d (by simp only[qm];decide)
  | num l=>cases b with
   | num m=>
    rw[zk]at h1 h2;obtain⟨z,h1,r,_⟩:=h1;obtain⟨F,h2,s,_⟩:=h2;subst h1;subst h2;rw[zde,zdg,r,s];rfl
   | _=>exact absurd d (by simp only[qm];decide)
  | str l=>cases b with
   | str m=>rw[zk]at h1 h2;subst h1;subst h2;rw[zdf,zdh];rfl
   | _=>exact absurd d (by simp only[qm];decide)
  | arr l=>cases b with
   | arr m=>
    rw[zk]at h1 h2;obtain⟨p,E,y,h1,s1,g,_⟩:=h1;obtain⟨f,v,o,h2,s2,h,_⟩:=h2;subst h1;subst h2;exact FS (by kernel_rfl) underlying102 x p f (fun e=>hd p s1 (by rw[e];exact s2)) w g h
   | _=>exact absurd d (by simp only[qm];decide)
  | obj l=>cases b with
   | obj m=>
    rw[zk]at h1 h2;obtain⟨q,b,B,y,h1,s1,_,g,_⟩:=h1;obtain⟨i,A,u,o,h2,s2,_,h,_⟩:=h2;subst h1;subst h2;exact FS (by kernel_rfl) underlying173 j q i (fun e=>hd q s1 (by rw[e];exact s2)) w g h
   | _=>exact absurd d (by simp only[qm];decide)
 ·obtain⟨C,rfl⟩:=VB h1;obtain⟨D,rfl⟩:=VB h2;rw[Bp d];exact run_eql_iface_types _ _ _ _ underlying61 d w
theorem Va{w:Wo}{S1 S2:Nat->Prop}(hd:∀ k,S1 k->¬ S2 k){a b:Option JV}{v1 v2:Value}(h1:QS w S1 a v1)(h2:QS w S2 b v2)(hn:a≠none∨b≠none):(binOp .eql 61 v1 v2).run prog w= .ok (.bool (FT a b)) w:=by
 cases a with
 | none=>
  cases b with
  | none=>rcases hn with h | h<;>exact absurd rfl h
  | some b=>
   obtain⟨q,rfl⟩:=VB h2;have:v1= .nilIface:=h1;subst this;exact zdd _ _ w
 | some a=>
  cases b with
  | none=>
   obtain⟨q,rfl⟩:=VB h1;have:v2= .nilIface:=h2;subst this;exact zdc _ _ w
  | some b=>exact FU hd h1 h2
end Go.Proofs.YtpaecnbdoljafaaGreatDoor
