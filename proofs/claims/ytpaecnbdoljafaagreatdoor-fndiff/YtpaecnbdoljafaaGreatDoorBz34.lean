import Derived.Test.YtpaecnbdoljafaaGreatDoorBz27
import Derived.Test.YtpaecnbdoljafaaGreatDoorBz32
import Derived.Test.YtpaecnbdoljafaaGreatDoorBz33
set_option maxRecDepth 100000
set_option maxHeartbeats 8000000
namespace Go.Proofs.YtpaecnbdoljafaaGreatDoor
open Go.RowKit Go.Proofs.Tryz
def BG(w:Wo)(o:Sum Nat JV)(e:Ending)(w':Wo):Prop:=
 Bw w w'/\match o with
 | .inl c=>e= .returned (.tuple #[.nilIface,.int .i64 c])
 | .inr v=>∃ (t:TypeId) (p:Value),e= .returned (.tuple #[.iface t p,.int .i64 0])/\zk w' (fun k=>w.heap.size<=k/\k<w'.heap.size) v (.iface t p)
theorem Xc(s:Bs)(w:Wo)(hT:qL w.heap.size w)(hE:Qt w.heap.size w)(hP:QE w.heap.size w)(hz:s.size<=9223372036854775807):
  Calls prog 33 #[.string s] w (BG w (zI s)):=by
 have L:∀ (fn:Fn) (first cap:Array Value) (w:Wo),(Instr.makeFunc fn first cap).run prog w= .ok (.func fn first cap) w:=fun _ _ _ _=>rfl;by_cases m:20000<s.size
 ·have R:((20000:Int)<(s.size:Int))=True:=eq_true (by omega);have f:Hid (zI s= .inl 1):=by show _=_;rw[zI,yg m]
  clear hT hE hP m;go_in;go_wp2;go_ret2;exact⟨yI _ _,by rw[uh f];rfl⟩
 ·have R:((20000:Int)<(s.size:Int))=False:=yR (by omega);have h:=ze (zcg s w (by omega) hT hE);have a:Hid (zI s=match Qa s with
   | none=>.inl 2
   | some v=>if zV v then .inl 3 else if zw v then .inl 4 else if 100<zm v∨3000<zj v then .inl 5 else .inr v):=by show _=_;exact (show zI s=_ from by unfold zI;exact yf m).trans (by cases Qa s<;>rfl)
  cases hd:Qa s with
  | none=>
   rw[hd]at h a;clear hT hE hP m hd;go_in;go_wp2_with fail;refine (uh h).mono ?_;rintro e u ⟨g,z,rfl⟩;clear h;go_wp2;go_ret2;exact⟨g,by rw[uh a];rfl⟩
  | some v=>
   obtain⟨n,I,K⟩:=Vy hd;have J:=(qz v).1;have D:=ze hP;have O:s.size<=20000:=by omega
   rw[hd]at h a;clear hT hE hP m hd;go_in;go_wp2_with fail;refine (uh h).mono ?_;rintro e u ⟨g,z,t,p,rfl,B,p1,A,d⟩;have G:=B.cell;have F:=p1.cell;have y:=A.big;have ct:=A.twice;have C:=ze B;have i:=ze d;clear h B p1 A d
   cases hb:zV v with
   | true=>
    rw[hb]at y;rw[hb]at a;clear hb;go_wp2;go_ret2;exact⟨g,by rw[uh a];rfl⟩
   | false=>
    rw[hb]at y a
    cases ht:zw v with
    | true=>
     rw[ht]at ct a;clear hb ht;go_wp2;go_ret2;exact⟨g,by rw[uh a];rfl⟩
    | false=>
     rw[ht]at ct a;have b:=ze (uh i hb ht);have HC:=ze (FX v n ht u _ t p (uh b) (fun k hk=>hk.2) (((uh D).next g (ye _)).more g.size) (by omega) (by omega) (by omega));clear hb ht i n;go_wp2_with fail;refine (uh HC).mono ?_;rintro e o ⟨rfl,q⟩;have j:Bw o (o.alloc (qA (zm v) (zj v) (Go.Proofs.YtpaecnbdoljafaaGreatDoor.ct v).length)):=(yI _ _).alloc (ye _) _;have H:=(((uh C).below q).below j).cell;have x:=ze (zi (zi g q) j);have E:Hid (zk (o.alloc (qA (zm v) (zj v) (Go.Proofs.YtpaecnbdoljafaaGreatDoor.ct v).length)) (fun k=>w.heap.size<=k/\k<(o.alloc (qA (zm v) (zj v) (Go.Proofs.YtpaecnbdoljafaaGreatDoor.ct v).length)).heap.size) v (.iface t p)):=by
      have M:=q.size;have N:=j.size;exact zk.keep (w:=u) (S:=fun k=>w.heap.size+4<=k/\k<u.heap.size) (fun k hk=>(j.block k (by have:=hk.2;omega)).trans (q.block k hk.2)) (fun k hk=>⟨by have:=hk.1;omega,by have:=hk.2;omega⟩) v _ (uh b)
     clear HC G F y ct C b j;simp only[Yc];by_cases l:100<zm v
     ·have P:((100:Int)<(zm v:Int))=True:=eq_true (by omega);have f:Hid (zI s= .inl 5):=by show _=_;rw[uh a];simp[l]
      clear a l;go_wp2;go_ret2;exact⟨uh x,by rw[uh f];rfl⟩
     ·have P:((100:Int)<(zm v:Int))=False:=yR (by omega);by_cases r:3000<zj v
      ·have Q:((3000:Int)<(zj v:Int))=True:=eq_true (by omega);have f:Hid (zI s= .inl 5):=by show _=_;rw[uh a];simp[r]
       clear a l r;go_wp2;go_ret2;exact⟨uh x,by rw[uh f];rfl⟩
      ·have Q:((3000:Int)<(zj v:Int))=False:=yR (by omega);have f:Hid (zI s= .inr v):=by show _=_;rw[uh a];simp[l,r]
       clear a l r;go_wp2;go_ret2;exact⟨uh x,by rw[uh f];exact⟨t,p,rfl,uh E⟩⟩
end Go.Proofs.YtpaecnbdoljafaaGreatDoor
namespace Go.Proofs.YtpaecnbdoljafaaGreatDoor
open Go.RowKit Go.Sort Go.Proofs.Tryz
theorem zdt(s:Bs)(w:Wo)(hT:qL w.heap.size w)(hE:Qt w.heap.size w)(hP:QE w.heap.size w)(hz:s.size<=9223372036854775807):
  Calls prog 21 #[.string s] w fun e w'=>e= .returned (Zx s)/\Bw w w':=by
 have a:=ze (Xc s w hT hE hP hz);have m:=ze hP;clear hT hE hP
 cases hr:zI s with
 | inl c=>
  obtain⟨c1,c2⟩:=GK hr;have h:Hid (Zx s= .tuple #[.string ⟨#[]⟩,.int .i64 (c:Int)]):=by show _=_;unfold Zx;rw[hr]
  rw[hr]at a;have x:((c:Int) ==0)=false:=by simp;omega
  have y:((c:Int) !=0)=true:=by simp;omega
  have z:¬ (c:Int)=0:=by omega
  have A:¬ c=0:=by omega
  clear hr;go_in;go_wp2_with fail;refine (uh a).mono ?_;rintro e j ⟨b,rfl⟩;clear a;go_wp2;go_ret2;exact⟨by rw[uh h];rfl,b⟩
 | inr v=>
  obtain⟨u,i,f,_,_,_⟩:=Y7 hr;obtain⟨d,o,q⟩:=Vy i;have h:Hid (Zx s= .tuple #[.string (zh (ct v)),.int .i64 0]):=by show _=_;unfold Zx;rw[hr]
  rw[hr]at a;clear hr i;go_in;go_wp2_with fail;refine (uh a).mono ?_;rintro e j ⟨b,t,p,rfl,g⟩;have HC:=ze (K0 v d f t p j _ g (fun k hk=>hk.2) (((uh m).next b (ye _)).more b.size) (by omega));clear a g d f;generalize zh (ct v)=r at *;go_wp2_with fail;refine (uh HC).mono ?_;rintro e B ⟨rfl,n⟩;have l:=zi b n;clear HC;go_wp2;go_ret2;exact⟨by rw[uh h];rfl,l⟩
end Go.Proofs.YtpaecnbdoljafaaGreatDoor
namespace Go.Proofs.YtpaecnbdoljafaaGreatDoor
open Go.RowKit Go.Proofs.Tryz
theorem qL.more{B B':Nat}{w:Wo}(h:qL B w)(hB:B<=B'):qL B' w:=by
 obtain⟨d,a,b⟩:=h;exact⟨d,yQ a hB,b⟩
theorem Qt.more{B B':Nat}{w:Wo}(h:Qt B w)(hB:B<=B'):Qt B' w:=⟨yF h.1 hB,h.2⟩
theorem zdu{w w':Wo}(h:qL w.heap.size w)(hb:Bw w w'):qL w'.heap.size w':=qL.more (qL.next h hb (ye _)) hb.size
theorem zdv{w w':Wo}(h:Qt w.heap.size w)(hb:Bw w w'):Qt w'.heap.size w':=Qt.more (Qt.next h hb (ye _)) hb.size
theorem BH{w w':Wo}(h:QE w.heap.size w)(hb:Bw w w'):QE w'.heap.size w':=(h.next hb (ye _)).more hb.size
structure qQ(w:Wo):Prop where
 tab:qL w.heap.size w
 err:Qt w.heap.size w
 pow:QE w.heap.size w
 ml:ML w
theorem qQ.up{w w':Wo}(h:qQ w)(hb:Bw w w'):qQ w':=⟨zdu h.tab hb,zdv h.err hb,BH h.pow hb,h.ml.below hb⟩
end Go.Proofs.YtpaecnbdoljafaaGreatDoor
namespace Go.Proofs.YtpaecnbdoljafaaGreatDoor
open Go.RowKit Go.Sort Go.Proofs.Tryz
theorem zdw{m:JM}{t:List UInt8}(h:(m.toL.find? fun q=>q.1 ==t)=none):∀ q∈m.toL,q.1≠t:=fun q hq e=>by
 have:=List.find?_eq_none.1 h q hq;simp[e]at this
theorem RV(v:JV)(htw:zw v=false)(t:List UInt8)(ht:t.length<=1048576)(ty:TypeId)(p:Value)(w:Wo)(S:Nat->Prop)(h:zk w S v (.iface ty p)):
  Calls prog 113 #[.iface ty p,.string (zh t)] w fun e w'=>w=w'/\((∃ x,e= .returned (.tuple #[x,.bool false])/\zn v t=none)∨∃ (x:Value) (u:JV),e= .returned (.tuple #[x,.bool true])/\zn v t=some u/\zk w S u x):=by
 have leaf:(∀ w:Wo,(Instr.typeAssert (.iface ty p) 61 102 true).run prog w= .ok (.tuple #[.pointer none,.bool false]) w)->(∀ w:Wo,(Instr.typeAssert (.iface ty p) 61 173 true).run prog w= .ok (.tuple #[.pointer none,.bool false]) w)->zn v t=none ->
   Calls prog 113 #[.iface ty p,.string (zh t)] w fun e w'=>w=w'/\((∃ x,e= .returned (.tuple #[x,.bool false])/\zn v t=none)∨∃ (x:Value) (u:JV),e= .returned (.tuple #[x,.bool true])/\zn v t=some u/\zk w S u x):=fun h1 h2 hc=>by
  have HC:=ze hc;clear hc h;generalize zh t=N at *;go_in;go_wp2;go_ret2;exact⟨rfl,.inl ⟨_,rfl,uh HC⟩⟩
 cases v with
 | nul=>rw[zk]at h;injection h with a b;subst a;subst b;exact leaf (fun _=>by kernel_rfl) (fun _=>by kernel_rfl) rfl
 | tt=>rw[zk]at h;injection h with a b;subst a;subst b;exact leaf (fun _=>by kernel_rfl) (fun _=>by kernel_rfl) rfl
 | ff=>rw[zk]at h;injection h with a b;subst a;subst b;exact leaf (fun _=>by kernel_rfl) (fun _=>by kernel_rfl) rfl
 | num l=>rw[zk]at h;obtain⟨z,h,_⟩:=h;injection h with a b;subst a;subst b;exact leaf (fun _=>by kernel_rfl) (fun _=>by kernel_rfl) rfl
 | str l=>rw[zk]at h;injection h with a b;subst a;subst b;exact leaf (fun _=>by kernel_rfl) (fun _=>by kernel_rfl) rfl
 | arr l=>
  clear leaf;rw[zk]at h;obtain⟨P,sv,k,h,Z,R,y,F⟩:=h;injection h with h1 h2;subst h1;subst h2;obtain⟨a,g,Q,rfl,r,f⟩:=J1 y;obtain⟨hxl,d⟩:=QY l k F;have T:w.cell? ⟨P,0,none⟩=some (.slice a k.length Q):=by rw[yG R];rfl
  have t1:∀ w:Wo,(Instr.typeAssert (.iface 102 (.pointer (some ⟨P,0,none⟩))) 61 102 true).run prog w= .ok (.tuple #[.pointer (some ⟨P,0,none⟩),.bool true]) w:=fun _=>by kernel_rfl
  have G:=FY (zh t) w (by rw[zN];exact ht);rw[Za]at G
  cases hx:Z8 t with
  | none=>
   have J:JJ t= .tuple #[.int .i64 0,.bool false]:=by unfold JJ;rw[hx]
   rw[J]at G;have n:=ze G;have HC:Hid (zn (.arr l) t=none):=by show _=_;rw[ql,hx];rfl
   clear G J hx F y d f r;generalize zh t=N at *;go_in;go_wp2_with fail;refine (uh n).mono ?_;rintro e w1 ⟨rfl,rfl⟩;clear n;go_wp2;go_ret2;exact⟨rfl,.inl ⟨_,rfl,uh HC⟩⟩
  | some i=>
   have J:JJ t= .tuple #[.int .i64 (i:Int),.bool true]:=by unfold JJ;rw[hx]
   rw[J]at G;have n:=ze G;by_cases hl:i<k.length
   ·have tl:¬ (k.length:Int)<=(i:Int):=by omega
    have Y:decide ((k.length:Int)<=(i:Int))=false:=yk (by omega);have hltI:(i:Int)<(k.length:Int):=by omega
    have hci:=f i hl;obtain rfl:=(r (by omega)).1;have HC:Hid (zn (.arr l) t=some (l.toL[i]'(by omega))/\zk w S (l.toL[i]'(by omega)) k[i]):=⟨by rw[ql,hx];simp[show i<l.toL.length by omega],d i hl (by omega)⟩;clear G J hx F y d f r;generalize k[i]=xi at *;generalize zh t=N at *;go_in;go_wp2_with fail;refine (uh n).mono ?_;rintro e w1 ⟨rfl,rfl⟩;clear n;go_wp2;go_ret2;exact⟨rfl,.inr ⟨_,_,rfl,(uh HC).1,(uh HC).2⟩⟩
   ·have tl:(k.length:Int)<=(i:Int):=by omega
    have Y:decide ((k.length:Int)<=(i:Int))=true:=yj (by omega);have HC:Hid (zn (.arr l) t=none):=by show _=_;rw[ql,hx];simp;omega
    clear G J hx F y d f r;generalize zh t=N at *;go_in;go_wp2_with fail;refine (uh n).mono ?_;rintro e w1 ⟨rfl,rfl⟩;clear n;go_wp2;go_ret2;exact⟨rfl,.inl ⟨_,rfl,uh HC⟩⟩
 | obj m=>
  clear leaf;rw[zk]at h;obtain⟨O,mb,nn,k,h,ad,aa,U,C,_,I⟩:=h;injection h with h1 h2;subst h1;subst h2;obtain⟨j,d⟩:=YB m k I;rw[zw]at htw;have H:=(WD m [] htw).1;have B:(k.map (·.1)).Nodup:=by rw[j];exact H
  have T:w.cell? ⟨O,0,none⟩=some (.map (some mb)):=by rw[yG U];rfl
  have t1:∀ w:Wo,(Instr.typeAssert (.iface 173 (.pointer (some ⟨O,0,none⟩))) 61 102 true).run prog w= .ok (.tuple #[.pointer none,.bool false]) w:=fun _=>by kernel_rfl
  have t2:∀ w:Wo,(Instr.typeAssert (.iface 173 (.pointer (some ⟨O,0,none⟩))) 61 173 true).run prog w= .ok (.tuple #[.pointer (some ⟨O,0,none⟩),.bool true]) w:=fun _=>by kernel_rfl
  obtain⟨xv,A,o⟩:=Rg C t (by omega);have s:=FC t k;rw[j]at s
  cases hf:m.toL.find? fun q=>q.1 ==t with
  | none=>
   have HC:Hid (zn (.obj m) t=none):=by show _=_;rw[Qb,hf];rfl
   have K:(Je k t).isSome=false:=by
    rw[s,List.contains_eq_mem,decide_eq_false_iff_not,Qs];intro hm;obtain⟨q,V,e⟩:=yP.1 hm;exact zdw hf q V e
   rw[K]at A;clear I d j H B hf s K o C htw;generalize zh t=N at *;go_in;go_wp2;go_ret2;exact⟨rfl,.inl ⟨_,rfl,uh HC⟩⟩
  | some q=>
   have V:=List.mem_of_find?_eq_some hf;have W:q.1=t:=by have:=List.find?_some hf;simpa using this
   obtain⟨x0,M,L⟩:=d q.1 q.2 V;have E:=GU k B M;rw[W]at E;have D:(Je k t).isSome=true:=by rw[E];rfl
   have X:x0=xv:=by have:=o D;rw[E]at this;injection this
   subst X;rw[D]at A;have HC:Hid (zn (.obj m) t=some q.2/\zk w S q.2 x0):=⟨by rw[Qb,hf];rfl,L⟩;clear I d j H B hf s D o C htw E M L;generalize zh t=N at *;go_in;go_wp2;go_ret2;exact⟨rfl,.inr ⟨_,_,rfl,(uh HC).1,(uh HC).2⟩⟩
end Go.Proofs.YtpaecnbdoljafaaGreatDoor
