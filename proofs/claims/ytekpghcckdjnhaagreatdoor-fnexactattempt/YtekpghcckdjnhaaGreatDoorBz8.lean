import Derived.Test.YtekpghcckdjnhaaGreatDoorBz2
import Derived.Test.YtekpghcckdjnhaaGreatDoorBz7
set_option maxRecDepth 100000
set_option maxHeartbeats 8000000
namespace Go.Proofs.YtekpghcckdjnhaaGreatDoor
open Go.RowKit Go.Proofs.Tryz
def Z6(s:Bs):Bool:=match ZI s with
 | .inl _=>false
 | .inr v=>(ze (ct v)).toList ==s.toList
theorem CJ{s:Bs}:Z6 s=true↔∃ v,ZI s= .inr v/\ze (ct v)=s:=by
 unfold Z6
 cases h:ZI s with
 | inl c=>simp
 | inr v=>
  simp only[yC];constructor
  ·intro e;refine⟨v,rfl,?_⟩;rw[ByteArray.toList_eq,ByteArray.toList_eq]at e;have:(ze (ct v)).data=s.data:=Array.toList_inj.1 e;exact congrArg ByteArray.mk this
  ·rintro⟨d,a,b⟩;injection a with a;subst a;rw[b]
theorem zgB{s:Bs}{c:Nat}(h:ZI s= .inl c):c≠0:=by
 unfold ZI at h
 repeat' split at h
 all_goals first
  |(injection h with h;omega)
  | cases h
theorem RC(s:Bs)(w:Wo)(hs:s.size<=1048576):
  Calls prog 64 #[.string s] w fun e w'=>e= .returned (.bool (Z6 s))/\Bw w w':=by
 have a:=zb (CG s w hs)
 cases hr:ZI s with
 | inl c=>
  have g:=zgB hr;have d:Qy s= .tuple #[.string ⟨#[]⟩,.int .i64 (c:Int)]:=by unfold Qy;rw[hr]
  have b:Z6 s=false:=by unfold Z6;rw[hr]
  rw[d]at a;rw[b];have h:((c:Int) ==0)=false:=by simp only[yd,ne_eq];omega
  clear hr g d b;go_in;go_wp2_with fail;refine (uh a).mono ?_;rintro e i ⟨rfl,f⟩;clear a;go_wp2;go_ret;exact⟨rfl,f⟩
 | inr v=>
  have d:Qy s= .tuple #[.string (ze (ct v)),.int .i64 0]:=by unfold Qy;rw[hr]
  have b:Z6 s=((ze (ct v)).toList ==s.toList):=by unfold Z6;rw[hr]
  rw[d]at a;rw[b];clear hr d b;generalize ze (ct v)=u at *;go_in;go_wp2_with fail;refine (uh a).mono ?_;rintro e i ⟨rfl,f⟩;clear a;go_wp2;go_ret;exact⟨rfl,f⟩
def qS(k:Int):Bool:=k ==1 || k ==3 || k ==6
def Q5(k:Int):Bool:=k ==4 || k ==5
theorem zgC(k:Int)(w:Wo):Calls prog 90 #[.int .i64 k] w fun e w'=>e= .returned (.bool (qS k))/\w=w':=by
 unfold qS;by_cases a:k=1
 ·subst a;go_in;go_wp2;go_ret;exact⟨rfl,rfl⟩
 ·by_cases b:k=3
  ·subst b;go_in;go_wp2;go_ret;exact⟨rfl,rfl⟩
  ·have d:(k ==1)=false:=by simpa using a
   have f:(k ==3)=false:=by simpa using b
   rw[d,f];go_in;go_wp2;go_ret;exact⟨by simp,rfl⟩
theorem zgD(k:Int)(w:Wo):Calls prog 89 #[.int .i64 k] w fun e w'=>e= .returned (.bool (Q5 k))/\w=w':=by
 unfold Q5;by_cases a:k=4
 ·subst a;go_in;go_wp2;go_ret;exact⟨rfl,rfl⟩
 ·have b:(k ==4)=false:=by simpa using a
  rw[b];go_in;go_wp2;go_ret;exact⟨by simp,rfl⟩
def Z1(m:zw):Bool:=decide (1<=m.kind) && decide (m.kind<=6) && (zG m.path.data.toList).isSome && (if Q5 m.kind then (zG m.src.data.toList).isSome else m.src.toList ==[]) && (if qS m.kind then Z6 m.val else m.val.toList ==[])
theorem CK(m:zw)(w:Wo)(h1:m.path.size<=1048576)(h2:m.src.size<=1048576)(h3:m.val.size<=1048576):
  Calls prog 66 #[.agg #[.int .i64 m.kind,.string m.path,.string m.src,.string m.val]] w fun e w'=>e= .returned (.bool (Z1 m))/\Bw w w':=by
 have x:=zu w (Obj.cells #[.int .i64 m.kind,.string m.path,.string m.src,.string m.val] 95);have O:=yG w (Obj.cells #[.int .i64 m.kind,.string m.path,.string m.src,.string m.val] 95);have j:Hid (∀ wx,Calls prog 81 #[.string m.path] wx (Rb (.bool (zG m.path.data.toList).isSome) wx)):=fun wx=>Oo m.path wx h1;have k:Hid (∀ wx,Calls prog 81 #[.string m.src] wx (Rb (.bool (zG m.src.data.toList).isSome) wx)):=fun wx=>Oo m.src wx h2;have i:Hid (∀ wx,Calls prog 64 #[.string m.val] wx (Rb (.bool (Z6 m.val)) wx)):=fun wx=>RC m.val wx h3;have f:Hid (∀ wx,Calls prog 89 #[.int .i64 m.kind] wx (Rk (.bool (Q5 m.kind)) wx)):=fun wx=>zgD m.kind wx;have g:Hid (∀ wx,Calls prog 90 #[.int .i64 m.kind] wx (Rk (.bool (qS m.kind)) wx)):=fun wx=>zgC m.kind wx;by_cases Y:m.kind<1
 ·have l:Z1 m=false:=by unfold Z1;rw[yk (by omega)];simp
  rw[l];go_in;go_wp2;go_ret;exact⟨rfl,x⟩
 ·by_cases Z:6<m.kind
  ·have l:Z1 m=false:=by unfold Z1;rw[yk (p:=m.kind<=6) (by omega)];simp
   rw[l];go_in;go_wp2;go_ret;exact⟨rfl,x⟩
  ·have M:Z1 m=((zG m.path.data.toList).isSome && (if Q5 m.kind then (zG m.src.data.toList).isSome else m.src.toList ==[]) && (if qS m.kind then Z6 m.val else m.val.toList ==[])):=by
    unfold Z1;rw[yj (by omega),yj (by omega)];simp
   rw[M];clear M;have r:(m.src.toList ==[])=decide (m.src.toList=[]):=by by_cases h:m.src.toList=[]<;>simp[h]
   have s:(m.val.toList ==[])=decide (m.val.toList=[]):=by by_cases h:m.val.toList=[]<;>simp[h]
   rw[r,s];clear r s;generalize (zG m.path.data.toList).isSome=R at *;generalize (zG m.src.data.toList).isSome=S at *;generalize Z6 m.val=zg at *;generalize Q5 m.kind=Q at *;generalize qS m.kind=z at *;have d:Hid (∀ wx,Below (w.alloc (Obj.cells #[.int .i64 m.kind,.string m.path,.string m.src,.string m.val] 95)).heap.size (w.alloc (Obj.cells #[.int .i64 m.kind,.string m.path,.string m.src,.string m.val] 95)) wx->wx.cell? ⟨w.heap.size,0,none⟩=some (.int .i64 m.kind)/\wx.cell? ⟨w.heap.size,1,none⟩=some (.string m.path)/\wx.cell? ⟨w.heap.size,2,none⟩=some (.string m.src)/\wx.cell? ⟨w.heap.size,3,none⟩=some (.string m.val)):=fun wx hb=>by
    have y:=(hb.block w.heap.size (by simp)).trans O;exact⟨yF y 0,yF y 1,yF y 2,yF y 3⟩
   have A:=zb x;clear x O h1 h2 h3;go_in;go_wp2_with fail;refine (uh j _).mono ?_;rintro e V ⟨rfl,v⟩;obtain⟨c0,c1,c2,c3⟩:=uh d V v;have b:=zb (zh (uh A) v);have u:=zb v;clear v;by_cases D:R=true
   ·subst D;by_cases l:Q=true
    ·subst l;go_wp2_with fail;refine (uh f _).mono ?_;rintro e P ⟨rfl,rfl⟩;go_wp2_with fail;refine (uh k _).mono ?_;rintro e W ⟨rfl,B⟩;obtain⟨I,J,K,L⟩:=uh d W (zh (uh u) B);have b:=zb (zh (uh b) B);clear B u c0 c1 c2 c3 d;by_cases F:S=true
     ·subst F;go_wp2_with fail;refine (uh f _).mono ?_;rintro e w4 ⟨rfl,rfl⟩;have c0:=I;have c1:=J;have c2:=K;have c3:=L;clear I J K L;by_cases n:z=true
      ·subst n;go_wp2_with fail;refine (uh g _).mono ?_;rintro e H ⟨rfl,rfl⟩;go_wp2_with fail;refine (uh i _).mono ?_;rintro e X ⟨rfl,q⟩;have a:=zb (zh (uh b) q);clear q b c0 c1 c2 c3 j k i f g;go_wp2;go_ret;exact⟨by simp,uh a⟩
      ·have o:z=false:=by simpa using n
       subst o;go_wp2_with fail;refine (uh g _).mono ?_;rintro e H ⟨rfl,rfl⟩;have a:=b;clear b j k i f g n;go_wp2;go_ret;exact⟨by cases m.val.toList<;>simp,uh a⟩
     ·have G:S=false:=by simpa using F
      subst G;clear F;go_wp2;go_ret;exact⟨by simp,uh b⟩
    ·have C:Q=false:=by simpa using l
     subst C;go_wp2_with fail;refine (uh f _).mono ?_;rintro e P ⟨rfl,rfl⟩;go_wp2_with fail;refine (uh f _).mono ?_;rintro e P ⟨rfl,rfl⟩;clear u d l;by_cases N:m.src.toList=[]
     ·by_cases n:z=true
      ·subst n;go_wp2_with fail;refine (uh g _).mono ?_;rintro e H ⟨rfl,rfl⟩;go_wp2_with fail;refine (uh i _).mono ?_;rintro e X ⟨rfl,q⟩;have a:=zb (zh (uh b) q);clear q b c0 c1 c2 c3 j k i f g;go_wp2;go_ret;exact⟨by simp,uh a⟩
      ·have o:z=false:=by simpa using n
       subst o;go_wp2_with fail;refine (uh g _).mono ?_;rintro e H ⟨rfl,rfl⟩;have a:=b;clear b j k i f g n;go_wp2;go_ret;exact⟨by cases m.val.toList<;>simp,uh a⟩
     ·have T:m.src.toList.isEmpty=false:=by simpa using N
      have U:(m.src.toList ==[])=false:=by simpa using N
      clear j k i f g;go_wp2;go_ret;exact⟨by simp,uh b⟩
   ·have E:R=false:=by simpa using D
    subst E;clear D j k i f g d u c0 c1 c2 c3;go_wp2
    all_goals go_ret
    all_goals exact⟨by simp,uh b⟩
def tl(ss:List Bs):List (List UInt8):=ss.map fun s=>s.data.toList
theorem GU(ss:List Bs):(tl ss).length=ss.length:=by simp[tl]
theorem F4{ss:List Bs}{j:Nat}(h:j<ss.length):(tl ss)[j]'(by rw[GU];exact h)=ss[j].data.toList:=by simp[tl]
theorem CM{w:Wo}{v:Value}{ss:List Bs}{bl:List Nat}(h:qy w v ss bl):OT w 0 v (tl ss):=by
 have a:=(Y0.1 h).1;have e:(tl ss).map Qp=ss.map Value.string:=by
  unfold tl;rw[List.map_map];refine List.map_congr_left fun s _=>?_;obtain⟨⟨l⟩⟩:=s;rfl
 show w.ownsRow 0 _ 1 v (tl ss).length ((tl ss).map Qp)
 rw[e,GU];exact a
theorem zgE{l:List (List UInt8)}:qC l=l↔Jw l:=
 ⟨fun h=>h ▸ Rh l,fun h=>Ri (Rh l) h fun _=>Rg⟩
def JA(ss:List Bs):Bool:=decide (ss.length<=1000) && decide (qC (tl ss)=tl ss) && ss.all fun s=>(zG s.data.toList).isSome
def qN(n0:Int)(i:Nat)(m:zl):Bool:=m.no ==n0+i && Z6 m.doc && JA m.touched
def K0(n0:Int):Nat->List zl->Bool
 | _,[]=>true
 | i,m :: r=>qN n0 i m && K0 n0 (i+1) r
def q9:List zl->Bool
 | []=>false
 | m :: r=>decide ((m :: r).length<=8) && decide (0<=m.no) && decide (m.no<=1000000) && K0 m.no 0 (m :: r)
theorem CN{n0:Int}:∀ (l:List zl) (b:Nat),K0 n0 b l=true↔∀ j (h:j<l.length),qN n0 (b+j) l[j]=true
 | [],b=>by simp[K0]
 | m :: r,b=>by
  rw[K0,Bool.and_eq_true,CN r (b+1)];constructor
  ·rintro⟨h1,h2⟩ j hj
   cases j with
   | zero=>exact h1
   | succ j=>
    have:=h2 j (by simpa using hj);rw[show b+1+j=b+(j+1) by omega]at this;exact this
  ·intro h;refine⟨h 0 (by simp),fun j hj=>?_⟩;have:=h (j+1) (by simpa using hj);rw[show b+(j+1)=b+1+j by omega]at this;exact this
theorem zgF(va vb:Value)(xs ys:List (List UInt8))(B C:Nat)(w:Wo)(ha:OT w B va xs)(hb:OT w C vb ys)(_hla:xs.length<=1000000)(hlb:ys.length<=1000000):
  Calls prog 80 #[va,vb] w fun e w'=>e= .returned (.bool (decide (xs=ys)))/\Bw w w':=by
 obtain⟨a,V,c0,rfl,_,_⟩:=ha.shape;obtain⟨b,W,c1,rfl,_,_⟩:=hb.shape;obtain⟨z,K⟩:∃ z,decide (xs=ys)=z:=⟨_,rfl⟩;rw[K];have G:=zb K;have M:=zb ha;have Q:=zb hb;clear K ha hb;by_cases A:xs.length=ys.length
 ·rw[A]at M ⊢;have q:=zb A;clear A;go_in;go_wp2;go_loopw [5] (fun i wr=>∃ k:Nat,k<=ys.length/\i= .int .i64 k/\Bw w wr/\∀ j (h:j<xs.length) (h':j<ys.length),j<k->xs[j]=ys[j]) (fun i _=>ys.length - (intOf i).toNat)
  case atStart=>exact⟨0,yt _,rfl,yH _ _,fun j _ _ h=>by omega⟩
  case round=>
   obtain⟨k,X,rfl,r,p⟩:=hrel;by_cases d:k<ys.length
   ·have D:k<xs.length:=by have:=uh q;omega
    have o:=r.drew;have f:=ZB (uh M) o;have n:=ZB (uh Q) o;obtain⟨g,rfl⟩:∃ g,a=some ⟨g,0,none⟩:=by
     rcases f.2 with ⟨_,T⟩ |⟨g,H,I,s,_⟩
     ·omega
     ·injection s with s _ _;exact⟨g,s⟩
    obtain⟨O,rfl⟩:∃ g,b=some ⟨g,0,none⟩:=by
     rcases n.2 with ⟨_,T⟩ |⟨g,H,I,s,_⟩
     ·omega
     ·injection s with s _ _;exact⟨g,s⟩
    have m:wr.drew.ownsRow B 9 1 (.slice (some ⟨g,0,none⟩) ys.length c0) ys.length (xs.map Qp):=by
     have:=f;unfold OT at this;rw[uh q]at this;exact this
    have U:wr.drew.cell? ⟨g,k,none⟩=some (.string (ze xs[k])):=by rw[m.cellAt k (by simpa using d),Rj D]
    have N:wr.drew.cell? ⟨O,k,none⟩=some (.string (ze ys[k])):=by rw[n.cellAt k (by simpa using d),Rj d]
    have F:=zb p;have x:=zb o;have y:=zb d;have R:=zb D;clear f m n p r o;by_cases v:xs[k]=ys[k]
    ·have E:Hid (∀ j (h:j<xs.length) (h':j<ys.length),j<k+1->xs[j]=ys[j]):=fun j h h' hj=>by
      by_cases e:j=k
      ·subst e;exact v
      ·exact uh F j h h' (by omega)
     have S:wr.drew.cell? ⟨O,k,none⟩=some (.string (ze xs[k])):=N.trans (congrArg (fun l=>some (Value.string (ze l))) v.symm);clear N;generalize ze xs[k]=sk at *;clear v;go_wp2;go_region_law (fail)
     all_goals (
      go_wp2;go_roundw)
     all_goals first
      | exact⟨k+1,by have:=uh y;omega,by go_num,uh x,uh E⟩
      |(have:=uh y;simp[intOf];omega)
    ·have u:z=false:=(uh G).symm.trans (yk fun e=>v (by subst e;rfl));subst u;have J:((ze xs[k]).toList ==(ze ys[k]).toList)=false:=by
      rw[← Bool.not_eq_true,yC];intro e;rw[ByteArray.toList_eq,ByteArray.toList_eq,Zf,Zf]at e;exact v e
     generalize ze xs[k]=sk at *;generalize ze ys[k]=Y at *;clear v;go_wp2;go_region_law (fail)
     all_goals (
      go_wp2;go_ret;exact⟨rfl,uh x⟩)
   ·have L:z=true:=(uh G).symm.trans (yj (List.ext_getElem (uh q) fun j h1 h2=>p j h1 h2 (by omega)));subst L;clear p;go_wp2;go_ret;exact⟨rfl,r⟩
 ·have J:((xs.length:Int) !=(ys.length:Int))=true:=by rw[bne_iff_ne];omega
  have u:z=false:=(uh G).symm.trans (yk fun e=>A (by rw[e]));subst u;have P:¬ (xs.length:Int)=(ys.length:Int):=by omega
  clear A;go_in;go_wp2;go_ret;exact⟨rfl,yH _ _⟩
theorem zgG(p:Value)(vs:List zl)(bl:List Nat)(i:Nat)(w:Wo)(h:zk zT w p vs bl)(hi:i<vs.length)(hl:vs.length<=8)(n0:Int)(hn0:vs[0].no=n0)(hr0:0<=n0)(hr1:n0<=1000000)(hd:vs[i].doc.size<=1048576)(hp:∀ s∈vs[i].touched,s.size<=1048576):
  Calls prog 45 #[.agg #[p],.int .i64 (i:Int)] w fun e w'=>e= .returned (.bool (qN n0 i vs[i]))/\Bw w w':=by
 have h1:=h;obtain⟨xa,m,rfl,hxf,hxa⟩:=h.form;obtain⟨g,rfl⟩:=hxa (by omega);obtain⟨ws0,ib0,hE0,hc0,hx0⟩:=h.at (yx (show 0<vs.length by omega));obtain⟨q0,rfl,hq0⟩:=hE0;obtain⟨ws,ib,hE,hc,hx1⟩:=h.at (yx hi);obtain⟨q,rfl,hq⟩:=hE;have hA:=zu w (.cells #[.slice (some ⟨g,0,none⟩) vs.length m] 35);have Q:g<w.heap.size:=yJ _ _ (hc 0 _ rfl).1;obtain⟨y,B,rfl,ht1,ht2⟩:=hq.form;have c0:(w.alloc (.cells #[.slice (some ⟨g,0,none⟩) vs.length m] 35)).cell? ⟨g,i*3,none⟩=some (.int .i64 vs[i].no):=(hA.cell (p:=⟨g,i*3,none⟩) Q).trans (hc 0 _ rfl).1;have c1:(w.alloc (.cells #[.slice (some ⟨g,0,none⟩) vs.length m] 35)).cell? ⟨g,i*3+1,none⟩=some (.string vs[i].doc):=(hA.cell (p:=⟨g,i*3+1,none⟩) Q).trans (hc 1 _ rfl).1;have c2:(w.alloc (.cells #[.slice (some ⟨g,0,none⟩) vs.length m] 35)).cell? ⟨g,i*3+2,none⟩=some (.slice y vs[i].touched.length B):=(hA.cell (p:=⟨g,i*3+2,none⟩) Q).trans (hc 2 _ rfl).1;have hB:=zu (w.alloc (.cells #[.slice (some ⟨g,0,none⟩) vs.length m] 35)) (.cells #[.int .i64 vs[i].no,.string vs[i].doc,.slice y vs[i].touched.length B] 57);have kA:=yG w (.cells #[.slice (some ⟨g,0,none⟩) vs.length m] 35);have kB:=yG (w.alloc (.cells #[.slice (some ⟨g,0,none⟩) vs.length m] 35)) (.cells #[.int .i64 vs[i].no,.string vs[i].doc,.slice y vs[i].touched.length B] 57);have zA:(w.alloc (.cells #[.slice (some ⟨g,0,none⟩) vs.length m] 35)).heap.size=w.heap.size+1:=by simp
 rw[zA]at kB;have P:=zh hA hB;have G:Hid (∀ wx,Below (w.heap.size+1+1) ((w.alloc (.cells #[.slice (some ⟨g,0,none⟩) vs.length m] 35)).alloc (.cells #[.int .i64 vs[i].no,.string vs[i].doc,.slice y vs[i].touched.length B] 57)) wx->wx.cell? ⟨w.heap.size,0,none⟩=some (.slice (some ⟨g,0,none⟩) vs.length m)/\wx.cell? ⟨w.heap.size+1,0,none⟩=some (.int .i64 vs[i].no)/\wx.cell? ⟨w.heap.size+1,1,none⟩=some (.string vs[i].doc)/\wx.cell? ⟨w.heap.size+1,2,none⟩=some (.slice y vs[i].touched.length B)/\wx.cell? ⟨g,0,none⟩=some (.int .i64 vs[0].no)):=fun wx hx=>by
  have k1:=(hx.block w.heap.size (by omega)).trans ((hB.block w.heap.size (by rw[zA];omega)).trans kA);have k2:=(hx.block (w.heap.size+1) (by omega)).trans kB;exact⟨yF k1 0,yF k2 0,yF k2 1,yF k2 2,(hx.cell (p:=⟨g,0,none⟩) (by show g<_;omega)).trans ((P.cell (p:=⟨g,0,none⟩) Q).trans (by simpa [zT]using (hc0 0 _ rfl).1))⟩
 have X:=zb (hq.below P);have f:=zb P;have zAB:((w.alloc (.cells #[.slice (some ⟨g,0,none⟩) vs.length m] 35)).alloc (.cells #[.int .i64 vs[i].no,.string vs[i].doc,.slice y vs[i].touched.length B] 57)).heap.size=w.heap.size+1+1:=by simp
 have n:=zb zAB;clear hxa h h1 hc hc0 hq hq0 hx0 hx1 hxf ht1 ht2 hA hB kA kB zA P zAB;generalize vs[0].no=z0 at *;generalize vs[i]=mv at *;have hiI:(i:Int)<(vs.length:Int):=by omega
 have h0I:(0:Int)<(vs.length:Int):=by omega
 have hn8:(vs.length:Int)<=8:=by omega
 have h0N:0<vs.length:=by omega
 clear hi hl;generalize vs.length=nv at *;obtain⟨no,d,a⟩:=mv;have M:=zb hn0;clear hn0;by_cases hlen:1000<a.length
 ·have HZ:Hid (qN n0 i ⟨no,d,a⟩=false):=by
   show _=_
   have ht:decide (a.length<=1000)=false:=yk (by omega);simp[qN,JA,ht]
  have tlen:decide ((1000:Int)<(a.length:Int))=true:=yj (by omega);clear hlen hd hp hr0 hr1;go_in;go_wp2_with fail;generalize ((w.alloc (.cells #[.slice (some ⟨g,0,none⟩) nv m] 35)).alloc (.cells #[.int .i64 no,.string d,.slice y a.length B] 57))=C at *;obtain⟨Y,Z,f2,f3,f4⟩:=uh G C (yH _ _);clear c0 c1 c2;go_quiet (fail);have U:=zb (zh (uh f) (J8 C nq));clear Y Z f2 f3 f4 G X f n;go_wp2;go_ret;exact⟨by rw[uh HZ];rfl,uh U⟩
 ·have tlen:decide ((1000:Int)<(a.length:Int))=false:=yk (by omega);by_cases F:no=n0+i
  ·have J:IntKind.i64.wrap (z0+(i:Int))=z0+(i:Int):=by have:=uh M;unfold IntKind.wrap;simp[IntKind.bits,IntKind.signed];omega
   have tno:(no !=IntKind.i64.wrap (z0+(i:Int)))=false:=by rw[J,uh M];simpa using F
   clear J;have HNO:=zb F;clear F;have HG:Hid (∀ wx,Calls prog 64 #[.string d] wx (Rb (.bool (Z6 d)) wx)):=fun wx=>RC d wx hd
   cases hgd:Z6 d with
   | false=>
    rw[hgd]at HG;have A:Hid (qN n0 i ⟨no,d,a⟩=false):=by show _=_;simp[qN,hgd]
    go_in;go_wp2_with fail;have K:w.heap.size+1+1=((w.alloc (.cells #[.slice (some ⟨g,0,none⟩) nv m] 35)).alloc (.cells #[.int .i64 no,.string d,.slice y a.length B] 57)).heap.size:=by simp
    have D:=zb K;clear K;generalize ((w.alloc (.cells #[.slice (some ⟨g,0,none⟩) nv m] 35)).alloc (.cells #[.int .i64 no,.string d,.slice y a.length B] 57))=C at *;obtain⟨Y,Z,f2,f3,f4⟩:=uh G C.drew ((yH _ _).drew);have I:Bw C C.drew:=(yH _ _).drew;clear c0 c1 c2
    first
     |(go_region_law (
              go_simp;refine (uh HG _).mono ?_;rintro e w2 ⟨rfl,b2⟩;have u:=zh I b2;obtain⟨e0,e1,e2,e3,e4⟩:=uh G w2 (by rw[uh D];exact u)))
     | fail
    all_goals (
     have HBX:=zb (zh (uh f) u);clear e0 e1 e2 e3 e4 u b2 Y Z f2 f3 f4 I G X f n HG;go_wp2;go_ret;exact⟨by rw[uh A];rfl,uh HBX⟩)
   | true=>
    rw[hgd]at HG;have HO:Hid (∀ wx,Below (w.heap.size+1+1) ((w.alloc (.cells #[.slice (some ⟨g,0,none⟩) nv m] 35)).alloc (.cells #[.int .i64 no,.string d,.slice y a.length B] 57)) wx->Calls prog 70 #[.slice y a.length B] wx fun e w'=>∃ ra rc,e= .returned (.slice ra (qC (tl a)).length rc)/\OT w' wx.heap.size (.slice ra (qC (tl a)).length rc) (qC (tl a))/\Bw wx w'):=fun wx hx=>by
     have hqx:qy wx _ a ib:=(uh X).below (by show Below _ _ _;rw[uh n];exact hx);refine (Bn _ _ wx (CM hqx) (by rw[GU];omega)).mono ?_;rintro e w' ⟨r,rfl,o,b⟩;obtain⟨ra,_,rc,rfl,_,_⟩:=o.shape;exact⟨ra,rc,rfl,o,b⟩
    have E:Hid (∀ z:Bool,z=(decide (qC (tl a)=tl a) && a.all fun s=>(zG s.data.toList).isSome)->qN n0 i ⟨no,d,a⟩=z):=fun z hz=>by
     have L:(no ==n0+(i:Int))=true:=by simpa using uh HNO
     have ht:decide (a.length<=1000)=true:=yj (by omega);rw[hz];simp[qN,JA,L,hgd,ht]
    go_in;go_wp2_with fail;have K:w.heap.size+1+1=((w.alloc (.cells #[.slice (some ⟨g,0,none⟩) nv m] 35)).alloc (.cells #[.int .i64 no,.string d,.slice y a.length B] 57)).heap.size:=by simp
    have D:=zb K;clear K;generalize ((w.alloc (.cells #[.slice (some ⟨g,0,none⟩) nv m] 35)).alloc (.cells #[.int .i64 no,.string d,.slice y a.length B] 57))=C at *;obtain⟨Y,Z,f2,f3,f4⟩:=uh G C.drew ((yH _ _).drew);have I:Bw C C.drew:=(yH _ _).drew;clear c0 c1 c2;go_region_law (first
     |(go_simp;refine (uh HS4).mono ?_;rintro e w4 ⟨rfl,b4⟩)
     |(
       go_simp;refine (uh HO3).mono ?_;rintro e w3 ⟨ra,rc,rfl,o3,b3⟩;have N:=zh u b3;obtain⟨p0,p1,p2,p3,p4⟩:=uh G w3 (by rw[uh D];exact N);have HS4:=zb (zgF _ _ _ _ _ 0 w3 o3 (CM ((uh X).below N)) (by have:=FJ _ (tl a) rfl;rw[GU]at this;omega) (by rw[GU];omega)))
     |(
       go_simp;refine (uh HG _).mono ?_;rintro e w2 ⟨rfl,b2⟩;have u:=zh I b2;obtain⟨e0,e1,e2,e3,e4⟩:=uh G w2 (by rw[uh D];exact u);have HO3:=zb (uh HO w2 (by rw[uh D];exact u))))
    all_goals (
     have O:=zh N b4;have H:=zb (zh (uh f) O);have HF4:Hid (∀ wx,Bw w4 wx->wx.cell? ⟨w.heap.size+1,2,none⟩=some (.slice y a.length B)):=fun wx hx=>(uh G wx (by rw[uh D];exact zh O hx)).2.2.2.1;have HQ4:=zb ((uh X).below O);clear e0 e1 e2 e3 e4 p0 p1 p2 p3 p4 Y Z f2 f3 f4 u N O b2 b3 b4 I o3 G X f n HG HO HO3 HS4;by_cases S:qC (tl a)=tl a
     ·have l:decide (qC (tl a)=tl a)=true:=yj S;rw[l]at E;rw[l];clear S l;have r3:=uh HF4 w4 (yH _ _);go_wp2;go_loopw [6] (fun kk wr=>∃ k:Nat,k<=a.length/\kk= .int .i64 k/\Bw w4 wr/\∀ j (h:j<a.length),j<k->(zG a[j].data.toList).isSome=true) (fun kk _=>a.length - (intOf kk).toNat)
      case atStart=>exact⟨0,yt _,rfl,yH _ _,fun j _ h=>by omega⟩
      case round=>
       obtain⟨k,hk,rfl,L,v⟩:=hrel;have r4:=uh HF4 wr L;have HALL:=zb v;have W:=zb L;by_cases R:k<a.length
       ·have hltI:(k:Int)<(a.length:Int):=by omega
        have T:=(Y0.1 ((uh HQ4).below L)).1;obtain⟨gt,rfl⟩:∃ gt,y=some ⟨gt,0,none⟩:=by
         rcases T.2 with ⟨_,hn⟩ |⟨gq,cap,cur,hv,_⟩
         ·omega
         ·injection hv with hv _ _;exact⟨gq,hv⟩
        have ck:wr.cell? ⟨gt,k,none⟩=some (.string a[k]):=by
         rw[T.cellAt k (by simpa using R),List.getElem?_map,yx R];rfl
        have HP:=zb (Oo a[k] wr (hp a[k] (yr R)))
        cases hpk:(zG a[k].data.toList).isSome with
        | true=>
         rw[hpk]at HP;have HA2:Hid (∀ j (h:j<a.length),j<k+1->(zG a[j].data.toList).isSome=true):=fun j h hj=>by
          by_cases e:j=k
          ·subst e;exact hpk
          ·exact uh HALL j h (by omega)
         clear T v L hpk;go_wp2_with fail;refine (uh HP).mono ?_;rintro e w5 ⟨rfl,b5⟩;have V:=zb (zh (uh W) b5);clear HP b5 ck r4;go_wp2;go_roundw
         case rel=>exact⟨k+1,by omega,by go_num,uh V,uh HA2⟩
         case measure=>simp[intOf];omega
        | false=>
         rw[hpk]at HP;have A:Hid (qN n0 i ⟨no,d,a⟩=false):=uh E false (by
          symm;rw[Bool.true_and,← Bool.not_eq_true,List.all_eq_true];intro h;rw[h a[k] (yr R)]at hpk
          cases hpk)
         clear T v L hpk;go_wp2_with fail;refine (uh HP).mono ?_;rintro e w5 ⟨rfl,b5⟩;have V:=zb (zh (uh H) (zh (uh W) b5));clear HP b5 ck r4;go_wp2;go_ret;exact⟨by rw[uh A];rfl,uh V⟩
       ·have HZT:Hid (qN n0 i ⟨no,d,a⟩=true):=uh E true (by
         symm;rw[Bool.true_and,List.all_eq_true];intro x hx;obtain⟨j,hj,rfl⟩:=yX.1 hx;exact v j hj (by omega))
        clear v L;go_wp2;go_ret;exact⟨by rw[uh HZT];rfl,zh (uh H) (uh W)⟩
     ·have l:decide (qC (tl a)=tl a)=false:=yk S;rw[l]at E;rw[l];have A:=zb (uh E false rfl);clear S l E;go_wp2;go_ret;exact⟨by rw[uh A];rfl,uh H⟩)
  ·have J:IntKind.i64.wrap (z0+(i:Int))=z0+(i:Int):=by have:=uh M;unfold IntKind.wrap;simp[IntKind.bits,IntKind.signed];omega
   have tno:(no !=IntKind.i64.wrap (z0+(i:Int)))=true:=by rw[J,uh M];simpa using F
   have A:Hid (qN n0 i ⟨no,d,a⟩=false):=by
    show _=_
    have L:(no ==n0+(i:Int))=false:=by simpa using F
    simp[qN,L]
   clear J F hd hp;go_in;go_wp2_with fail;generalize ((w.alloc (.cells #[.slice (some ⟨g,0,none⟩) nv m] 35)).alloc (.cells #[.int .i64 no,.string d,.slice y a.length B] 57))=C at *;obtain⟨Y,Z,f2,f3,f4⟩:=uh G C (yH _ _);clear c0 c1 c2;go_quiet (fail);have U:=zb (zh (uh f) (J8 C nq));clear Y Z f2 f3 f4 G X f n;go_wp2;go_ret;exact⟨by rw[uh A];rfl,uh U⟩
def ZT(ms:List zw):Int:=if 100<ms.length then 100 else match ms.findIdx? (fun m=>!Z1 m)with
 | some i=>(i:Int)
 | none=>-1
def VY(ms:List zw):Prop:=∀ m∈ms,m.path.size<=1048576/\m.src.size<=1048576/\m.val.size<=1048576
theorem K6{ms:List zw}(h:Z4 ms<=1048576):VY ms:=fun m hm=>by
 obtain⟨k,b,rfl⟩:=yX.1 hm;have d:=V9 Ql ms k ms[k] (yx b);have a:=V8 (ms.map Ql) (k+1);rw[← List.map_take]at a;unfold Z4 at h;have f:Ql ms[k]=ms[k].path.size+ms[k].src.size+ms[k].val.size:=rfl;omega
def Xa(ms:List zw):Prop:=VY ms/\ms.length<=1048576
theorem CO{ms:List zw}(hl:ms.length<=100){k:Nat}(hk:k<ms.length)(hb:Z1 ms[k]=false)(hg:∀ j (h:j<ms.length),j<k->Z1 ms[j]=true):ZT ms=(k:Int):=by
 unfold ZT;rw[yf (by omega)];have:ms.findIdx? (fun m=>!Z1 m)=some k:=by
  rw[List.findIdx?_eq_some_iff_getElem];exact⟨hk,by simp[hb],fun j hj=>by simp[hg j (by omega) hj]⟩
 rw[this]
theorem CP{ms:List zw}(hl:ms.length<=100)(hg:∀ j (h:j<ms.length),Z1 ms[j]=true):ZT ms= -1:=by
 unfold ZT;rw[yf (by omega)];have:ms.findIdx? (fun m=>!Z1 m)=none:=by
  rw[List.findIdx?_eq_none_iff];intro x hx;obtain⟨j,a,rfl⟩:=yX.1 hx;simp[hg j a]
 rw[this]
theorem CQ(v:Value)(ms:List zw)(bl:List Nat)(w:Wo)(h:zk Zh w v ms bl)(hs:VY ms):
  Calls prog 49 #[v] w fun e w'=>e= .returned (.int .i64 (ZT ms))/\Bw w w':=by
 obtain⟨L,M,rfl,E,n⟩:=h.form;have H:=zb h;have r:=zb n;have D:=zb hs;have u:=h.len;unfold maxLen at u;clear h E n hs;by_cases C:ms.length<=100
 ·have s:¬ (100:Int)<(ms.length:Int):=by omega
  go_in;go_wp2;go_loopw [3] (fun i wr=>∃ k:Nat,k<=ms.length/\i= .int .i64 k/\(∀ j (h:j<ms.length),j<k->Z1 ms[j]=true)/\Bw w wr) (fun i _=>ms.length - (intOf i).toNat)
  case atStart=>exact⟨0,yt _,rfl,fun j _ hj=>by omega,yH _ _⟩
  case round=>
   obtain⟨k,G,rfl,B,d⟩:=hrel;have p:=zb B;have o:=zb d;clear B d;by_cases l:k<ms.length
   ·have m:(k:Int)<(ms.length:Int):=by omega
    obtain⟨g,rfl⟩:=uh r (by omega);obtain⟨J,I,F,f,_⟩:=((uh H).below (uh o)).at (yx l);obtain⟨rfl,_⟩:=F;have c0:wr.cell? ⟨g,k*4,none⟩=some (.int .i64 ms[k].kind):=(f 0 _ rfl).1;have c1:wr.cell? ⟨g,k*4+1,none⟩=some (.string ms[k].path):=(f 1 _ rfl).1;have c2:wr.cell? ⟨g,k*4+2,none⟩=some (.string ms[k].src):=(f 2 _ rfl).1;have c3:wr.cell? ⟨g,k*4+3,none⟩=some (.string ms[k].val):=(f 3 _ rfl).1;have a:=uh D ms[k] (yr _);have q:=zb (CK ms[k] wr a.1 a.2.1 a.2.2);obtain⟨z,x⟩:∃ z,Z1 ms[k]=z:=⟨_,rfl⟩;rw[x]at q;have y:=zb x;clear f a x;go_wp2_with fail;refine (uh q).mono ?_;rintro e K ⟨rfl,A⟩;have b:=zb (zh (uh o) A);clear q A o c0 c1 c2 c3
    cases z
    ·go_wp2;go_ret;exact⟨by rw[CO C l (uh y) (uh p)];rfl,uh b⟩
    ·go_wp2;go_roundw
     case rel=>
      refine⟨k+1,by omega,by go_num,fun j hj hjk=>?_,uh b⟩;by_cases e:j=k
      ·subst e;exact uh y
      ·exact uh p j hj (by omega)
     case measure=>simp[intOf];omega
   ·have m:¬ (k:Int)<(ms.length:Int):=by omega
    go_wp2;go_ret;exact⟨by rw[CP C fun j hj=>uh p j hj (by omega)];rfl,uh o⟩
 ·have s:(100:Int)<(ms.length:Int):=by omega
  have d:ZT ms=100:=by unfold ZT;rw[yg (by omega)]
  rw[d];clear d;go_in;go_wp2;go_ret;exact⟨rfl,yH _ _⟩
def zgH(k:Int):List UInt8:=if k=1 then [97,100,100]else if k=2 then [114,101,109,111,118,101]else if k=3 then [114,101,112,108,97,99,101]else if k=4 then [109,111,118,101]else if k=5 then [99,111,112,121]else [116,101,115,116]
def JL.ofL:List JV->JL
 | []=>.nil
 | v :: r=>.cons v (JL.ofL r)
theorem JL.toL_ofL:∀ l:List JV,(JL.ofL l).toL=l
 | []=>rfl
 | v :: r=>by rw[JL.ofL,JL.toL,JL.toL_ofL r]
theorem RD:∀ l:JL,QO l↔∀ v∈l.toL,ZR v
 | .nil=>by rw[QO];simp[JL.toL]
 | .cons v r=>by rw[QO,RD r,JL.toL];simp
theorem RE:∀ l:JL,ZX l=false↔∀ v∈l.toL,zy v=false
 | .nil=>by rw[ZX];simp[JL.toL]
 | .cons v r=>by rw[ZX,Bool.or_eq_false_iff,RE r,JL.toL];simp
theorem RF:∀ l:JL,qo l=false↔∀ v∈l.toL,zY v=false
 | .nil=>by rw[qo];simp[JL.toL]
 | .cons v r=>by rw[qo,Bool.or_eq_false_iff,RF r,JL.toL];simp
end Go.Proofs.YtekpghcckdjnhaaGreatDoor
