import Derived.Lib.BufferKept
import Derived.Test.YtpaecnbdoljafaaGreatDoorBp18
import Derived.Test.YtpaecnbdoljafaaGreatDoorBp10
set_option maxRecDepth 100000
set_option maxHeartbeats 8000000
namespace Go.Proofs.YtpaecnbdoljafaaGreatDoor
open Go.RowKit Go.Sort Go.Proofs.Tryz
def wf:JV->FuncId
 | .nul=>319
 | .tt=>320
 | .ff=>320
 | .num _=>334
 | .str _=>313
 | .arr _=>308
 | .obj _=>315
structure Xb(t:TypeId)(p:Value)(f:FuncId):Prop where
 meth : ∀ w : World, (method 477 t p "loop.example/s04350/impl.write").run Tryz.prog w = .ok (f, p) w
 ent:∀ args (w:Wo),(callFunc f args).run prog w= .ok (.enter f args) w
theorem Gs{w:Wo}{S:Nat->Prop}:∀ {v:JV} {x:Value},zl w S v x->∃ t p,x= .iface t p
 | .nul,x,h=>by rw[zl]at h;exact⟨_,_,h⟩
 | .tt,x,h=>by rw[zl]at h;exact⟨_,_,h⟩
 | .ff,x,h=>by rw[zl]at h;exact⟨_,_,h⟩
 | .num l,x,h=>by rw[zl]at h;obtain⟨z,h,_⟩:=h;exact⟨_,_,h⟩
 | .str l,x,h=>by rw[zl]at h;exact⟨_,_,h⟩
 | .arr l,x,h=>by rw[zl]at h;obtain⟨d,i,a,h,_⟩:=h;exact⟨_,_,h⟩
 | .obj m,x,h=>by rw[zl]at h;obtain⟨g,b,f,a,h,_⟩:=h;exact⟨_,_,h⟩
theorem Ok{w:Wo}{S:Nat->Prop}:∀ {v:JV} {t:TypeId} {p:Value},zl w S v (.iface t p)->Xb t p (wf v)
 | .nul,t,p,h=>by
  rw[zl]at h;injection h with h1 h2;subst h1;subst h2;exact⟨fun _=>by kernel_rfl,enters_of func319 (by kernel_rfl) rfl⟩
 | .tt,t,p,h=>by
  rw[zl]at h;injection h with h1 h2;subst h1;subst h2;exact⟨fun _=>by kernel_rfl,enters_of func320 (by kernel_rfl) rfl⟩
 | .ff,t,p,h=>by
  rw[zl]at h;injection h with h1 h2;subst h1;subst h2;exact⟨fun _=>by kernel_rfl,enters_of func320 (by kernel_rfl) rfl⟩
 | .num l,t,p,h=>by
  rw[zl]at h;obtain⟨z,h,_⟩:=h;injection h with h1 h2;subst h1;subst h2;exact⟨fun _=>by kernel_rfl,enters_of func334 (by kernel_rfl) rfl⟩
 | .str l,t,p,h=>by
  rw[zl]at h;injection h with h1 h2;subst h1;subst h2;exact⟨fun _=>by kernel_rfl,enters_of func313 (by kernel_rfl) rfl⟩
 | .arr l,t,p,h=>by
  rw[zl]at h;obtain⟨d,i,a,h,_⟩:=h;injection h with h1 h2;subst h1;subst h2;exact⟨fun _=>by kernel_rfl,enters_of func308 (by kernel_rfl) rfl⟩
 | .obj m,t,p,h=>by
  rw[zl]at h;obtain⟨g,b,f,a,h,_⟩:=h;injection h with h1 h2;subst h1;subst h2;exact⟨fun _=>by kernel_rfl,enters_of func315 (by kernel_rfl) rfl⟩
def Qx (B : Nat) (w : World) : Prop := 6 < B ∧ Lib.TabIs Tryz.prog w "internal/strconv.uint64pow10" .u64 Lib.pow10Tab
theorem Qx.next{B B':Nat}{w w':Wo}(h:Qx B w)(hb:Below B' w w')(hB:B<=B'):Qx B w':=by
 obtain⟨h0,h⟩:=h;refine⟨h0,?_⟩
 have hgn : Tryz.prog.globalNamed "internal/strconv.uint64pow10" = some 6 := by kernel_rfl
 unfold Lib.TabIs World.var? at h ⊢;rw[hgn]at h ⊢;simp only[yz]at h ⊢;rw[hb.block _ (by omega)];exact h
theorem SW{B b:Nat}{l:List UInt8}{w w1:Wo}(h:zH B b l w)(hb:Bw w w1):zH B b l w1:=by
 have g:∀ p,Lib.BuilderAt 149 5 B b p (Lib.byteCells l) w->Lib.BuilderAt 149 5 B b p (Lib.byteCells l) w1:=by
  rintro p ⟨i,v,a,d,f⟩;exact⟨i,v,(hb.block b (yA.1 a).1).trans a,ZI d hb,f⟩
 exact h.elim (fun x=>.inl (g _ x)) (fun x=>.inr (g _ x))
theorem CQ(w:Wo)(k:Nat)(os:Array Obj):Bw w (grow (w.drewN k) os):=
 ⟨rfl,rfl,rfl,by simp[grow],fun i hi=>by show (w.heap++os)[i]?=_;rw[Array.getElem?_append_left hi]⟩
def J4(v:JV):Prop:=∀ (B b:Nat) (l:List UInt8) (w:Wo) (S:Nat->Prop) (t:TypeId) (p:Value),zl w S v (.iface t p)->(∀ k,S k->k<B)->zH B b l w->B<=w.heap.size->Qx B w->l.length+(ct v).length<=10000000 ->
 Calls prog (wf v) #[p,.pointer (some ⟨b,0,none⟩)] w fun e w'=>e= .returned (.tuple #[])/\zH B b (l++ct v) w'/\Below B w w'/\Qy b w w'
theorem CR:J4 .nul:=by
 intro B b l w S t p h _ g f _ i;rw[zl]at h;injection h with a h2;subst a;subst h2;have j:B<=(w.alloc (.cells #[] 237)).heap.size:=by simp;omega
 have HC:=zh (Yb B b _ ⟨#[110,117,108,108]⟩ (w.alloc (.cells #[] 237)) (g.alloc _) (by rw[yJ];simp[ct]at i;show _+4<=_;omega) j);show Calls prog 319 _ _ _
 go_in;go_wp2_with fail;refine (uh HC).mono ?_;rintro e m ⟨rfl,a,d,k⟩;go_wp2;go_end0;exact⟨rfl,zH.str rfl a,((yG _ _).alloc f _).trans d,((Lib.OthersKept.refl _ _ _).alloc _).trans k⟩
theorem SX(x:Bool)(B b:Nat)(l:List UInt8)(w:Wo)(hI:zH B b l w)(hB:B<=w.heap.size)(hl:l.length<=10000000):
  Calls prog 320 #[.bool x,.pointer (some ⟨b,0,none⟩)] w fun e w'=>e= .returned (.tuple #[])/\zH B b (l++Lib.formatBool x) w'/\Below B w w'/\Qy b w w':=by
 have j:(⟨(Lib.formatBool x).toArray⟩:Bs).size<=5:=by cases x<;>decide
 have HC:=zh (Yb B b _ ⟨(Lib.formatBool x).toArray⟩ w hI (by rw[yJ];omega) hB);have a:=zh (Tryz.strconv_FormatBool x w);have g:Hid (Lib.formatBool x=(⟨(Lib.formatBool x).toArray⟩:Bs).data.toList):=by show _=_;simp
 generalize (⟨(Lib.formatBool x).toArray⟩:Bs)=q at *;generalize Lib.formatBool x=k at *;go_in;go_wp2_with fail;refine (uh a).mono ?_;rintro e i ⟨rfl,rfl⟩;clear a;go_wp2_with fail;refine (uh HC).mono ?_;rintro e i ⟨rfl,f,d,h⟩;go_wp2;go_end0;exact⟨rfl,zH.str (uh g) f,d,h⟩
theorem CS:J4 .tt:=by
 intro B b l w S t p h _ d a _ f;rw[zl]at h;injection h with h1 h2;subst h1;subst h2;exact SX true B b l w d a (by simp[ct]at f;omega)
theorem CT:J4 .ff:=by
 intro B b l w S t p h _ d a _ f;rw[zl]at h;injection h with h1 h2;subst h1;subst h2;exact SX false B b l w d a (by simp[ct]at f;omega)
theorem CU(x:List UInt8):J4 (.num x):=by
 intro B b l w S t p h _ u m v y;rw[zl]at h;obtain⟨z,h,rfl,D,E⟩:=h;injection h with d h2;subst d;subst h2;have s:=zh (Tryz.strconv_FormatInt_10 z D E w v.2);have o:ct (.num (Lib.itoa z))=Lib.itoa z:=rfl;rw[o]at y ⊢;have F:(⟨(Lib.itoa z).toArray⟩:Bs).size=(Lib.itoa z).length:=by show (Lib.itoa z).toArray.size=_;simp
 have HC:Hid (∀ a,Bw w a->Calls prog 194 #[.pointer (some ⟨b,0,none⟩),.string ⟨(Lib.itoa z).toArray⟩] a fun e f=>e= .returned (.tuple #[.int .i64 (⟨(Lib.itoa z).toArray⟩:Bs).size,.nilIface])/\zH B b (l++Lib.itoa z) f/\Below B a f/\Qy b a f):=fun a hb=>by
  have n:zH B b l a:=SW u hb;refine (Yb B b _ ⟨(Lib.itoa z).toArray⟩ a n (by rw[yJ];omega) (yO m hb.size)).mono ?_;rintro e f ⟨rfl,d,j,r⟩;exact⟨rfl,zH.str (by simp) d,j,r⟩
 generalize (⟨(Lib.itoa z).toArray⟩:Bs)=q at *;generalize Lib.itoa z=G at *;have C:=zh m;clear u m v y;show Calls prog 334 _ _ _
 go_in;go_wp2_with fail;refine (uh s).mono ?_;rintro e a ⟨rfl,k,A,rfl⟩;have i:Bw w (grow (w.drewN k) A):=CQ _ _ _;clear s;generalize grow (w.drewN k) A=a at *;have g:=zh (uh HC a i);clear HC;go_wp2_with fail;refine (uh g).mono ?_;rintro e H ⟨rfl,d,j,r⟩;go_wp2;go_end0;exact⟨rfl,d,(i.mono (uh C)).trans j,(Lib.OthersKept.below (Lib.OthersKept.refl _ _ _) i).trans r⟩
theorem CV(x:List UInt8)(hv:Lib.validD x=true):J4 (.str x):=by
 intro B b l w S t p h _ g f _ k;rw[zl]at h;injection h with a h2;subst a;subst h2;have e:ct (.str x)=34 ::(rs (zi x)++[34]):=by rw[Nm (zi x) (by rw[Zd];exact hv),Zd];rfl
 have hx:x.length<=(ct (.str x)).length:=by
  show _<=(quoted x).length
  have:x.length<=(qs x).length:=Sm x;simp[quoted];omega
 refine (Nj B b l (zi x) w g f (by omega) (by rw[zS];omega)).mono ?_;rintro j m ⟨rfl,a,d,i⟩;exact⟨rfl,by rw[e];exact a,d,i⟩
theorem Gt{w:Wo}{S:Nat->Prop}:∀ (l:JL) (xs:List Value),ZB w S l xs->xs.length=l.toL.length/\∀ j (h:j<xs.length) (h':j<l.toL.length),zl w S l.toL[j] xs[j]
 | .nil,xs,h=>by rw[ZB]at h;subst h;exact⟨rfl,fun j h=>by simp at h⟩
 | .cons v r,xs,h=>by
  rw[ZB]at h;obtain⟨x,xs',rfl,h2,h3⟩:=h;obtain⟨a,b⟩:=Gt r xs' h3;refine⟨by simp[JL.toL,a],fun j hj hj'=>?_⟩
  cases j with
  | zero=>exact h2
  | succ j=>exact b j (by simpa using hj) (by simpa [JL.toL]using hj')
theorem Xc{w:Wo}{S:Nat->Prop}{sv:Value}{xs:List Value}(h:Uh w S sv xs):∃ a g cap,sv= .slice a xs.length cap/\(0<xs.length->a=some ⟨g,0,none⟩/\S g)/\∀ j (hj:j<xs.length),w.cell? ⟨g,j,none⟩=some xs[j]:=by
 obtain⟨h,i⟩:=h;have k:=h.1;rcases h.2 with ⟨b,f⟩ |⟨g,cap,d,b,l,m,r⟩
 ·refine⟨none,0,0,by rw[b,f],fun hx=>by omega,fun j hj=>by omega⟩
 ·subst b;refine⟨some ⟨g,0,none⟩,g,cap,rfl,fun _=>⟨rfl,i g rfl⟩,fun j hj=>?_⟩;rw[h.cellAt j (by omega)];simp
theorem SY(xs:List (List UInt8))(k:Nat)(h:k<xs.length):joinC (xs.take (k+1))=joinC (xs.take k)++(if k=0 then xs[k]else 44 :: xs[k]):=by
 rw[yx h,KP];by_cases a:k=0
 ·subst a;simp
 ·rw[ye a,ye (by intro e;have:=congrArg List.length e;rw[yl,yC]at this;omega)]
theorem SZ(xs:List (List UInt8))(k:Nat):(joinC (xs.take k)).length<=(joinC xs).length:=by
 induction xs generalizing k with
 | nil=>simp
 | cons x xs ih=>
  cases k with
  | zero=>simp[joinC]
  | succ k=>
   rw[List.take_succ_cons,joinC,joinC];have:∀ (a:List (List UInt8)) k,(joinT (a.take k)).length<=(joinT a).length:=by
    intro a;induction a with
    | nil=>simp
    | cons y a ihy=>
     intro k
     cases k with
     | zero=>simp[joinT]
     | succ k=>rw[List.take_succ_cons,joinT,joinT];have:=ihy k;simp;omega
   have:=this xs k;simp;omega
theorem S5(xs:List (List UInt8)):xs.length<=(joinC xs).length+1:=by
 cases xs with
 | nil=>simp
 | cons x xs=>
  rw[joinC];have:∀ a:List (List UInt8),a.length<=(joinT a).length:=by
   intro a;induction a with
   | nil=>simp
   | cons y a ih=>rw[joinT];simp;omega
  have:=this xs;simp;omega
theorem CW(l:JL)(hall:∀ v∈l.toL,J4 v):J4 (.arr l):=by
 intro B b I w S t p h hS A hB hP G;rw[zl]at h;obtain⟨ab,sv,o,h,L,hab,M,aa⟩:=h;injection h with h1 h2;subst h1;subst h2;obtain⟨a,g,cap,rfl,C,E⟩:=Xc M;have hxl:=(Gt l o aa).1;have hc0:w.cell? ⟨ab,0,none⟩=some (.slice a o.length cap):=by rw[yE hab];rfl
 have T:ab<B:=hS _ L;have W:ct (.arr l)=91 ::(joinC (zu l)++[93]):=rfl;have hcl:(zu l).length=o.length:=by rw[qH,yk,hxl]
 have hn:=S5 (zu l);have hjt:I.length+(joinC (zu l)).length+2<=10000000:=by rw[W]at G;simp at G;omega
 have hxn:o.length<=10000000:=by omega
 have q:Hid (∀ (k:Nat) (hk:k<o.length) (n:List UInt8) (wr:Wo),zH B b n wr->Below B w wr->n.length+((zu l).getD k []).length<=10000000->∃ t p f,o[k]= .iface t p/\Xb t p f/\Calls prog f #[p,.pointer (some ⟨b,0,none⟩)] wr fun e w'=>e= .returned (.tuple #[])/\zH B b (n++(zu l).getD k []) w'/\Below B wr w'/\Qy b wr w'):=by
  intro k hk n wr R D hl';have F:k<l.toL.length:=by omega
  have hr:=(Gt l o aa).2 k hk F;obtain⟨t,p,he⟩:=Gs hr;rw[he]at hr;have hr':=zl.keep (w':=wr) (S':=S) (fun k hk=>D.block k (hS k hk)) (fun _ h=>h) _ _ hr;have hd:(zu l).getD k []=ct l.toL[k]:=by rw[qH];simp[List.getD,F]
  rw[hd]at hl' ⊢;exact⟨t,p,wf l.toL[k],he,Ok hr,hall _ (yq F) B b n wr S t p hr' hS R (yO hB D.size) (hP.next D (yd _)) hl'⟩
 have HJ:Hid (∀ k,k<o.length->joinC ((zu l).take (k+1))=joinC ((zu l).take k)++(if k=0 then (zu l).getD k []else 44 ::(zu l).getD k [])):=fun k hk=>by
  have:=SY (zu l) k (by omega);rw[this];simp[List.getD,show k<(zu l).length by omega]
 have y:Hid (∀ k,(joinC ((zu l).take k)).length<=(joinC (zu l)).length):=SZ (zu l);have HE:Hid ((zu l).take o.length=zu l):=yp (by omega);have HC:Hid (∀ j (hj:j<o.length) (wr:Wo),Below B w wr->wr.cell? ⟨g,j,none⟩=some o[j]):=fun j hj wr D=>by
  have hg:g<B:=hS _ ((C (by omega)).2);exact (D.cell (p:=⟨g,j,none⟩) hg).trans (E j hj)
 have U:0<o.length->a=some ⟨g,0,none⟩:=fun h=>(C h).1;have HCT:=zh W;have hl0:(Lib.byteCells I).length<=10000000:=by rw[yJ];omega
 generalize zu l=cs at *;have s:Hid (∀ (n:List UInt8) (c:Int) (c':UInt8) (wr:Wo),c=(c'.toNat:Int)->n.length<=10000000->zH B b n wr->B<=wr.heap.size->Calls prog 186 #[.pointer (some ⟨b,0,none⟩),.int .u8 c] wr fun e w'=>e= .returned .nilIface/\zH B b (n++[c']) w'/\Below B wr w'/\Qy b wr w'):=fun n c c' wr hc ha R hB'=>by
  refine (Wc B b _ c wr R (by rw[yJ];omega) hB').mono ?_;rintro e w' ⟨rfl,h1,b1,k1⟩;exact⟨rfl,zH.byte hc h1,b1,k1⟩
 have HW0:=zh (uh s I 91 91 w rfl (by omega) A hB);have HB:=zh hB;clear M aa E C hS hP hab W hcl hall G hxl hn A hB L;show Calls prog 308 _ _ _
 go_in;go_wp2_with fail;refine (uh HW0).mono ?_;rintro e w1 ⟨rfl,i1,b1,k1⟩;have hc1:w1.cell? ⟨ab,0,none⟩=some (.slice a o.length cap):=(b1.cell (p:=⟨ab,0,none⟩) T).trans hc0;clear HW0 hc0;have I1:=zh i1;have B1:=zh b1;have K1:=zh k1;clear i1 b1 k1;go_wp2;go_loopw [13] (fun i wr=>∃ k:Nat,k<=o.length/\i= .int .i64 k/\zH B b (I++91 :: joinC (cs.take k)) wr/\Below B w wr/\Qy b w wr) (fun i _=>o.length - (intOf i).toNat)
 case atStart=>exact⟨0,yr _,rfl,by have:=uh I1;simpa [joinC]using this,uh B1,uh K1⟩
 case round=>
  obtain⟨k,hk,rfl,A,J,hok⟩:=hrel;have P:=zh hok;clear hok K1;have hBr:B<=wr.heap.size:=yO (uh HB) J.size;clear I1 B1 hc1;by_cases K:k<o.length
  ·have hltI:(k:Int)<(o.length:Int):=by omega
   obtain rfl:=U (by omega);have V:=uh HC k K wr J;have z:=zh (uh HJ k K);have r:=uh y (k+1);rw[uh z]at r;have Y:=uh y k;generalize joinC (cs.take k)=jk at *;by_cases Z:k=0
   ·rw[yf Z]at z r;have tk:(0<k)=False:=yP (by omega);obtain⟨t,p,f,he,hw,m⟩:=uh q k K (I++91 :: jk) wr A J (by simp at r ⊢;omega);rw[he]at V;have hm:=hw.meth;have X:=hw.ent;have d:=zh m;generalize cs.getD k []=ck at *;have N:=zh J;clear A hw he m r Y q HJ y HC s J Z;go_wp2_with fail;refine (uh d).mono ?_;rintro e H ⟨rfl,i2,Q,k2⟩;clear d V hm X;go_wp2;go_roundw
    case rel=>exact⟨k+1,by omega,by go_num,by rw[uh z];simpa using i2,(uh N).trans Q,(uh P).trans k2⟩
    case measure=>simp[intOf];omega
   ·rw[ye Z]at z r;have tk:(0<k)=True:=eq_true (by omega);have HWC:=zh (uh s (I++91 :: jk) 44 44 wr rfl (by simp at Y ⊢;omega) A hBr);have O:=zh (⟨A,J⟩:zH B b (I++91 :: jk) wr/\Below B w wr);have u:Hid (∀ H,zH B b (I++91 :: jk++[44]) H->Below B w H->∃ t p f,o[k]= .iface t p/\Xb t p f/\Calls prog f #[p,.pointer (some ⟨b,0,none⟩)] H fun e w'=>e= .returned (.tuple #[])/\zH B b (I++91 :: jk++[44]++cs.getD k []) w'/\Below B H w'/\Qy b H w'):=fun H h1 h2=>uh q k K _ H h1 h2 (by simp at r ⊢;omega);generalize cs.getD k []=ck at *;generalize hx:o[k]=x at *;clear A J r Y q HJ y HC s hx;go_wp2_with fail;refine (uh HWC).mono ?_;rintro e H ⟨rfl,i2,Q,k2⟩;obtain⟨t,p,f,rfl,hw,m⟩:=uh u H i2 ((uh O).2.trans Q);have hm:=hw.meth;have X:=hw.ent;have d:=zh m;have B2:=zh ((uh O).2.trans Q);have K2:=zh ((uh P).trans k2);clear HWC u O i2 Q k2 hw m V;go_wp2_with fail;refine (uh d).mono ?_;rintro e w3 ⟨rfl,i3,b3,k3⟩;clear d hm X;go_wp2;go_roundw
    case rel=>exact⟨k+1,by omega,by go_num,by rw[uh z];simpa using i3,(uh B2).trans b3,(uh K2).trans k3⟩
    case measure=>simp[intOf];omega
  ·have F:k=o.length:=by omega
   subst F;rw[uh HE]at A;have HWE:=zh (uh s (I++91 :: joinC cs) 93 93 wr rfl (by simp;omega) A hBr);have N:=zh J;clear A J q HJ y HC s;go_wp2_with fail;refine (uh HWE).mono ?_;rintro e H ⟨rfl,i2,Q,k2⟩;go_wp2;go_end0;exact⟨rfl,by rw[uh HCT];simpa using i2,(uh N).trans Q,(uh P).trans k2⟩
end Go.Proofs.YtpaecnbdoljafaaGreatDoor
