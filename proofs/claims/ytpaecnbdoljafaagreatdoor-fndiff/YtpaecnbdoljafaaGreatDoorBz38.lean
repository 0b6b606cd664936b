import Derived.Test.YtpaecnbdoljafaaGreatDoorBz34
import Derived.Test.YtpaecnbdoljafaaGreatDoorBz37
set_option maxRecDepth 100000
set_option maxHeartbeats 8000000
namespace Go.Proofs.YtpaecnbdoljafaaGreatDoor
open Go.RowKit Go.Proofs.Tryz
def qR(s t:Bs):List (List UInt8):=match zI s,zI t with
 | .inr a,.inr b=>qS (max (zm a) (zm b)) [] a b
 | _,_=>[]
def Qf(s t:Bs):Bool:=match zI s,zI t with
 | .inr _,.inr _=>true
 | _,_=>false
theorem RZ(s t:Bs):(qR s t).length<=6000:=by
 unfold qR
 cases hs:zI s with
 | inl c=>simp
 | inr a=>
  cases ht:zI t with
  | inl c=>simp
  | inr b=>
   obtain⟨_,k,i,_,_,l⟩:=Y7 hs;obtain⟨h,_,_⟩:=Vy k;obtain⟨_,g,f,_,_,j⟩:=Y7 ht;obtain⟨d,_,_⟩:=Vy g;have:=Sf (max (zm a) (zm b)) [] a b h d i f;simp only;omega
theorem Sa:∀ n,AC n
 | 0=>fun P oa ob p ys lv v1 v2 w B S1 S2 ga gb hnn=>by
  rcases hnn with h | h
  ·obtain⟨u,rfl⟩:=Option.ne_none_iff_exists'.1 h;obtain⟨_,_,d,_⟩:=ga;have:=(qz u).2;omega
  ·obtain⟨u,rfl⟩:=Option.ne_none_iff_exists'.1 h;obtain⟨_,_,d,_⟩:=gb;have:=(qz u).2;omega
 | n+1=>zdC n (zdF n (Sa n)) (zdI n (Sa n))
def CIn(f:FuncId):Prop:=∀ (P:ZJ->Prop) (a b:JV) (v1 v2:Value) (w:Wo) (S1 S2:Nat->Prop) (n:Nat),zD a->zD b->zw a=false->zw b=false->zm a<=n->zm b<=n->(ct a).length<=1000000->(ct b).length<=1000000->zj a+zj b<=1000000 ->
 zk w S1 a v1->zk w S2 b v2->GV w w.heap.size S1 S2->PW P w S1 S2 [] (some a) (some b) ->
 Calls prog f #[v1,v2] w fun e w'=>∃ (r:Value) (zs:List ZJ),e= .returned r/\ZQ w' w.heap.size r zs/\ZM P zs (qS n [] a b)/\Bw w w'
theorem zdL:CIn 73:=by
 intro P a b H I w F G n g h i j p q v x o l m f d;have k:=ze (Sa n P (some a) (some b) [] [] (.slice none 0 0) H I w w.heap.size F G ⟨g,i,p,v,by simp;omega⟩ ⟨h,j,q,x,by simp;omega⟩ (.inl (by simp)) (by simp) (by simp only[Qv,yE];omega) (World.ownsRow_nil w w.heap.size 63 3) l m f d);obtain⟨O,M,rfl⟩:=Qe l;obtain⟨Q,N,rfl⟩:=Qe m;have C:Hid (WV n [] (some a) (some b)=qS n [] a b):=rfl;have u:zh []=⟨#[]⟩:=rfl;rw[u]at k;clear d l m f g h i j p q v x o u;generalize WV n [] (some a) (some b)=K at *;generalize qS n [] a b=L at *;go_in;go_wp2_with fail;refine (uh k).mono ?_;rintro e J ⟨r,A,rfl,y,z,s⟩;have D:Hid (ZQ J w.heap.size r A):=y;have E:=ze z;have B:=ze s.1;clear k y z s;go_wp2;go_ret;exact⟨r,A,rfl,uh D,by rw[← uh C];exact uh E,uh B⟩
def DG(w:Wo)(a b:JV)(z:ZJ):Prop:=∃ ts,z.1=JK [] ts/\QS w (fun k=>k<w.heap.size) (zr a ts) z.2.1/\QS w (fun k=>k<w.heap.size) (zr b ts) z.2.2
theorem DG.up{w w':Wo}{a b:JV}{z:ZJ}(h:DG w a b z)(hb:Bw w w'):DG w' a b z:=by
 obtain⟨i,d,f,g⟩:=h;exact⟨i,d,f.keep (fun k hk=>hb.block k hk) (fun k hk=>yF hk hb.size),g.keep (fun k hk=>hb.block k hk) (fun k hk=>yF hk hb.size)⟩
def COP(s t:Bs)(w:Wo)(e:Ending)(w':Wo):Prop:=Bw w w'/\(Qf s t=false->e= .returned (.tuple #[.slice none 0 0,.bool false])) /\
 (Qf s t=true->∃ (r:Value) (zs:List ZJ) (B:Nat) (a b:JV),e= .returned (.tuple #[r,.bool true])/\ZQ w' B r zs/\zI s= .inr a/\zI t= .inr b/\ZM (DG w' a b) zs (qR s t))
theorem BV(s t:Bs)(w:Wo)(hw:qQ w)(hs:s.size<=1048576)(ht:t.size<=1048576):
  Calls prog 29 #[.string s,.string t] w (COP s t w):=by
 have m:=ze (Xc s w hw.tab hw.err hw.pow (by omega));have j:Hid (∀ wx,Bw w wx->Calls prog 33 #[.string t] wx (BG wx (zI t))):=fun wx hx=>Xc t wx (hw.up hx).tab (hw.up hx).err (hw.up hx).pow (by omega);have N:Hid (∀ wx,Bw w wx->QE wx.heap.size wx):=fun wx hx=>(hw.up hx).pow;clear hw hs ht;have n:Hid (∀ c,zI s= .inl c->Qf s t=false):=fun c h=>by unfold Qf;rw[h]
 have o:Hid (∀ c,zI t= .inl c->Qf s t=false):=fun c h=>by unfold Qf;rw[h];cases zI s<;>rfl
 cases hrs:zI s with
 | inl c=>
  obtain⟨c1,c2⟩:=GK hrs;have C:=ze (uh n c hrs);have t1:((c:Int) ==0)=false:=by simp;omega
  have t2:((c:Int) !=0)=true:=by simp;omega
  have t3:¬ (c:Int)=0:=by omega
  have t4:¬ c=0:=by omega
  rw[hrs]at m;clear hrs n o
  cases hrt:zI t with
  | inl d=>
   rw[hrt]at j;clear hrt;go_in;go_wp2_with fail;refine (uh m).mono ?_;rintro e y ⟨g,rfl⟩;have l:=ze (uh j y g);have f:=ze g;clear m j g;go_wp2_with fail;refine (uh l).mono ?_;rintro e K ⟨i,rfl⟩;have A:=ze (zi (uh f) i);clear l i;go_wp2;go_ret2;exact⟨uh A,fun _=>rfl,fun h=>by rw[uh C]at h;cases h⟩
  | inr b=>
   rw[hrt]at j;clear hrt;go_in;go_wp2_with fail;refine (uh m).mono ?_;rintro e y ⟨g,rfl⟩;have l:=ze (uh j y g);have f:=ze g;clear m j g;go_wp2_with fail;refine (uh l).mono ?_;rintro e K ⟨i,ty,q,rfl,-⟩;have A:=ze (zi (uh f) i);clear l i;go_wp2;go_ret2;exact⟨uh A,fun _=>rfl,fun h=>by rw[uh C]at h;cases h⟩
 | inr a=>
  rw[hrs]at m
  cases hrt:zI t with
  | inl d=>
   obtain⟨c1,c2⟩:=GK hrt;have C:=ze (uh o d hrt);have t1:((d:Int) ==0)=false:=by simp;omega
   have t2:((d:Int) !=0)=true:=by simp;omega
   have t3:¬ (d:Int)=0:=by omega
   have t4:¬ d=0:=by omega
   rw[hrt]at j;clear hrt hrs n o;go_in;go_wp2_with fail;refine (uh m).mono ?_;rintro e y ⟨g,ty,q,rfl,-⟩;have l:=ze (uh j y g);have f:=ze g;clear m j g;go_wp2_with fail;refine (uh l).mono ?_;rintro e K ⟨i,rfl⟩;have A:=ze (zi (uh f) i);clear l i;go_wp2;go_ret2;exact⟨uh A,fun _=>rfl,fun h=>by rw[uh C]at h;cases h⟩
  | inr b=>
   obtain⟨_,U,J,_,_,R⟩:=Y7 hrs;obtain⟨I,_,S⟩:=Vy U;obtain⟨_,G,u,_,_,F⟩:=Y7 hrt;obtain⟨p,_,H⟩:=Vy G;have C:Hid (Qf s t=true):=by show _=_;unfold Qf;rw[hrs,hrt]
   have Z:Hid (qR s t=qS (max (zm a) (zm b)) [] a b):=by show _=_;unfold qR;rw[hrs,hrt]
   have D:Hid (∀ (v1 v2:Value) (wx:Wo) (S1 S2:Nat->Prop),zk wx S1 a v1->zk wx S2 b v2->GV wx wx.heap.size S1 S2->Calls prog 73 #[v1,v2] wx fun e w'=>∃ (r:Value) (L:List ZJ),e= .returned r/\ZQ w' wx.heap.size r L/\ZM (DG wx a b) L (qS (max (zm a) (zm b)) [] a b)/\Bw wx w'):=fun v1 v2 wx S1 S2 r1 r2 h2=>zdL (DG wx a b) a b v1 v2 wx S1 S2 _ I p J u (Nat.le_max_left _ _) (Nat.le_max_right _ _) (by omega) (by omega) (by omega) r1 r2 h2 (fun ts v1 v2 W X=>⟨ts,rfl,QS.keep (fun _ _=>rfl) (fun k hk=>h2.lt1 k hk) W,QS.keep (fun _ _=>rfl) (fun k hk=>h2.lt2 k hk) X⟩);have O:=ze hrs;have P:=ze hrt;rw[hrt]at j;clear hrt hrs n o U G J u R F I p S H;go_in;go_wp2_with fail;refine (uh m).mono ?_;rintro e y ⟨g,ty1,W,rfl,v⟩;have l:=ze (uh j y g);have f:=ze g;have E:=ze v;clear m j g v;go_wp2_with fail;refine (uh l).mono ?_;rintro e K ⟨i,ty2,X,rfl,x⟩;have B:=zi (uh f) i;have T:=i.size;have HC:=ze (uh D _ _ K (fun k=>w.heap.size<=k/\k<y.heap.size) _ (zk.keep (fun k hk=>i.block k hk.2) (fun _ h=>h) _ _ (uh E)) x ⟨fun k h1 h2=>by omega,fun k h1=>by omega,fun k h1=>h1.2,ye _,uh N K B⟩);have M:=ze B;clear l i x E D B T;go_wp2_with fail;refine (uh HC).mono ?_;rintro e w3 ⟨r,L,rfl,V,Y,Q⟩;have HO:=ze V;have HM:=ze (Y.mono fun z hz=>hz.up Q);have A:=ze (zi (uh M) Q);clear HC V Y Q;go_wp2;go_ret2;exact⟨uh A,fun h=>(by rw[uh C]at h;cases h),fun _=>⟨r,L,_,a,b,rfl,uh HO,uh O,uh P,by rw[uh Z];exact uh HM⟩⟩
theorem zdN(s t:Bs)(w:Wo)(hw:qQ w)(hs:s.size<=1048576)(ht:t.size<=1048576):
  Calls prog 9 #[.string s,.string t] w fun e w'=>∃ v,e= .returned (.tuple #[v,.bool (Qf s t)])/\OT w' w.heap.size v (qR s t)/\Bw w w':=by
 have g:=ze (BV s t w hw hs ht);have p:=RZ s t;have i:Hid (Qf s t=false->qR s t=[]):=fun h=>by
  revert h;unfold Qf qR
  cases zI s<;>cases zI t<;>simp
 clear hw hs ht;go_in;go_wp2_with fail;refine (uh g).mono ?_;rintro e u ⟨f,b,a⟩;have d:=ze f;have l:=f.size
 cases hz:Qf s t with
 | false=>
  obtain rfl:=b hz;have C:=ze (uh i hz);have k:=ze hz;clear b a g i hz f;go_wp2;go_ret2;exact⟨_,by rw[uh k];rfl,by rw[uh C];exact World.ownsRow_nil u w.heap.size 9 1,uh d⟩
 | true=>
  obtain⟨r,x,B,_,_,rfl,o,-,-,z⟩:=a hz;have m:x.length=(qR s t).length:=by rw[← z.1,yl]
  have j:=ze (zdJ r x u o (by omega) (fun y hy=>⟨(z.2 y hy).1,(z.2 y hy).2.1⟩));rw[z.1]at j;have k:=ze hz;clear b a g i hz o z m f;go_wp2_with fail;refine (uh j).mono ?_;rintro e F ⟨E,rfl,q,n⟩;have D:=ze (QO q l);have A:=ze (zi (uh d) n);clear j q n;go_wp2;go_ret2;exact⟨E,by rw[uh k];rfl,uh D,uh A⟩
end Go.Proofs.YtpaecnbdoljafaaGreatDoor
