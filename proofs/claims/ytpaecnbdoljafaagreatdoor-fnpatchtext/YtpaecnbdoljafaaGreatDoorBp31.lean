import Derived.Test.YtpaecnbdoljafaaGreatDoorBp24
import Derived.Test.YtpaecnbdoljafaaGreatDoorBp29
import Derived.Test.YtpaecnbdoljafaaGreatDoorBp30
set_option maxRecDepth 100000
set_option maxHeartbeats 8000000
namespace Go.Proofs.YtpaecnbdoljafaaGreatDoor
open Go.RowKit Go.Proofs.Tryz
def Ae(w:Wo)(o:Sum Nat JV)(e:Ending)(w':Wo):Prop:=
 Bw w w'/\match o with
 | .inl c=>e= .returned (.tuple #[.nilIface,.int .i64 c])
 | .inr v=>∃ (t:TypeId) (p:Value),e= .returned (.tuple #[.iface t p,.int .i64 0])/\zl w' (fun k=>w.heap.size<=k/\k<w'.heap.size) v (.iface t p)
theorem OU(s:Bs)(w:Wo)(hT:qc w.heap.size w)(hE:q8 w.heap.size w)(hP:Qx w.heap.size w)(hz:s.size<=9223372036854775807):
  Calls prog 33 #[.string s] w (Ae w (Zo s)):=by
 have L:∀ (fn:Fn) (first cap:Array Value) (w:Wo),(Instr.makeFunc fn first cap).run prog w= .ok (.func fn first cap) w:=fun _ _ _ _=>rfl;by_cases m:20000<s.size
 ·have R:((20000:Int)<(s.size:Int))=True:=eq_true (by omega);have f:Hid (Zo s= .inl 1):=by show _=_;rw[Zo,yf m]
  clear hT hE hP m;go_in;go_wp2;go_ret2;exact⟨yG _ _,by rw[uh f];rfl⟩
 ·have R:((20000:Int)<(s.size:Int))=False:=yP (by omega);have h:=zh (CP s w (by omega) hT hE);have a:Hid (Zo s=match qu s with
   | none=>.inl 2
   | some v=>if zD v then .inl 3 else if zw v then .inl 4 else if 100<zE v∨3000<zo v then .inl 5 else .inr v):=by show _=_;exact (show Zo s=_ from by unfold Zo;exact ye m).trans (by cases qu s<;>rfl)
  cases hd:qu s with
  | none=>
   rw[hd]at h a;clear hT hE hP m hd;go_in;go_wp2_with fail;refine (uh h).mono ?_;rintro e u ⟨g,z,rfl⟩;clear h;go_wp2;go_ret2;exact⟨g,by rw[uh a];rfl⟩
  | some v=>
   obtain⟨n,I,K⟩:=Gw hd;have J:=(Jv v).1;have D:=zh hP;have O:s.size<=20000:=by omega
   rw[hd]at h a;clear hT hE hP m hd;go_in;go_wp2_with fail;refine (uh h).mono ?_;rintro e u ⟨g,z,t,p,rfl,B,p1,A,d⟩;have G:=B.cell;have F:=p1.cell;have y:=A.big;have ct:=A.twice;have C:=zh B;have i:=zh d;clear h B p1 A d
   cases hb:zD v with
   | true=>
    rw[hb]at y;rw[hb]at a;clear hb;go_wp2;go_ret2;exact⟨g,by rw[uh a];rfl⟩
   | false=>
    rw[hb]at y a
    cases ht:zw v with
    | true=>
     rw[ht]at ct a;clear hb ht;go_wp2;go_ret2;exact⟨g,by rw[uh a];rfl⟩
    | false=>
     rw[ht]at ct a;have b:=zh (uh i hb ht);have HC:=zh (Xg v n ht u _ t p (uh b) (fun k hk=>hk.2) (((uh D).next g (yd _)).more g.size) (by omega) (by omega) (by omega));clear hb ht i n;go_wp2_with fail;refine (uh HC).mono ?_;rintro e o ⟨rfl,q⟩;have j:Bw o (o.alloc (ZX (zE v) (zo v) (Go.Proofs.YtpaecnbdoljafaaGreatDoor.ct v).length)):=(yG _ _).alloc (yd _) _;have H:=(((uh C).below q).below j).cell;have x:=zh (zj (zj g q) j);have E:Hid (zl (o.alloc (ZX (zE v) (zo v) (Go.Proofs.YtpaecnbdoljafaaGreatDoor.ct v).length)) (fun k=>w.heap.size<=k/\k<(o.alloc (ZX (zE v) (zo v) (Go.Proofs.YtpaecnbdoljafaaGreatDoor.ct v).length)).heap.size) v (.iface t p)):=by
      have M:=q.size;have N:=j.size;exact zl.keep (w:=u) (S:=fun k=>w.heap.size+4<=k/\k<u.heap.size) (fun k hk=>(j.block k (by have:=hk.2;omega)).trans (q.block k hk.2)) (fun k hk=>⟨by have:=hk.1;omega,by have:=hk.2;omega⟩) v _ (uh b)
     clear HC G F y ct C b j;simp only[Jx];by_cases l:100<zE v
     ·have P:((100:Int)<(zE v:Int))=True:=eq_true (by omega);have f:Hid (Zo s= .inl 5):=by show _=_;rw[uh a];simp[l]
      clear a l;go_wp2;go_ret2;exact⟨uh x,by rw[uh f];rfl⟩
     ·have P:((100:Int)<(zE v:Int))=False:=yP (by omega);by_cases r:3000<zo v
      ·have Q:((3000:Int)<(zo v:Int))=True:=eq_true (by omega);have f:Hid (Zo s= .inl 5):=by show _=_;rw[uh a];simp[r]
       clear a l r;go_wp2;go_ret2;exact⟨uh x,by rw[uh f];rfl⟩
      ·have Q:((3000:Int)<(zo v:Int))=False:=yP (by omega);have f:Hid (Zo s= .inr v):=by show _=_;rw[uh a];simp[l,r]
       clear a l r;go_wp2;go_ret2;exact⟨uh x,by rw[uh f];exact⟨t,p,rfl,uh E⟩⟩
end Go.Proofs.YtpaecnbdoljafaaGreatDoor
namespace Go.Proofs.YtpaecnbdoljafaaGreatDoor
open Go.RowKit Go.Sort Go.Proofs.Tryz
theorem Af(s:Bs)(w:Wo)(hT:qc w.heap.size w)(hE:q8 w.heap.size w)(hP:Qx w.heap.size w)(hz:s.size<=9223372036854775807):
  Calls prog 21 #[.string s] w fun e w'=>e= .returned (ZY s)/\Bw w w':=by
 have a:=zh (OU s w hT hE hP hz);have m:=zh hP;clear hT hE hP
 cases hr:Zo s with
 | inl c=>
  obtain⟨c1,c2⟩:=OE hr;have h:Hid (ZY s= .tuple #[.string ⟨#[]⟩,.int .i64 (c:Int)]):=by show _=_;unfold ZY;rw[hr]
  rw[hr]at a;have x:((c:Int) ==0)=false:=by simp;omega
  have y:((c:Int) !=0)=true:=by simp;omega
  have z:¬ (c:Int)=0:=by omega
  have A:¬ c=0:=by omega
  clear hr;go_in;go_wp2_with fail;refine (uh a).mono ?_;rintro e j ⟨b,rfl⟩;clear a;go_wp2;go_ret2;exact⟨by rw[uh h];rfl,b⟩
 | inr v=>
  obtain⟨u,i,f,_,_,_⟩:=UK hr;obtain⟨d,o,q⟩:=Gw i;have h:Hid (ZY s= .tuple #[.string (zi (ct v)),.int .i64 0]):=by show _=_;unfold ZY;rw[hr]
  rw[hr]at a;clear hr i;go_in;go_wp2_with fail;refine (uh a).mono ?_;rintro e j ⟨b,t,p,rfl,g⟩;have HC:=zh (UD v d f t p j _ g (fun k hk=>hk.2) (((uh m).next b (yd _)).more b.size) (by omega));clear a g d f;generalize zi (ct v)=r at *;go_wp2_with fail;refine (uh HC).mono ?_;rintro e B ⟨rfl,n⟩;have l:=zj b n;clear HC;go_wp2;go_ret2;exact⟨by rw[uh h];rfl,l⟩
end Go.Proofs.YtpaecnbdoljafaaGreatDoor
namespace Go.Proofs.YtpaecnbdoljafaaGreatDoor
open Go.RowKit Go.Proofs.Tryz
theorem qc.more{B B':Nat}{w:Wo}(h:qc B w)(hB:B<=B'):qc B' w:=by
 obtain⟨d,a,b⟩:=h;exact⟨d,yO a hB,b⟩
theorem q8.more{B B':Nat}{w:Wo}(h:q8 B w)(hB:B<=B'):q8 B' w:=⟨yD h.1 hB,h.2⟩
theorem Ag{w w':Wo}(h:qc w.heap.size w)(hb:Bw w w'):qc w'.heap.size w':=qc.more (qc.next h hb (yd _)) hb.size
theorem Ah{w w':Wo}(h:q8 w.heap.size w)(hb:Bw w w'):q8 w'.heap.size w':=q8.more (q8.next h hb (yd _)) hb.size
theorem Lz{w w':Wo}(h:Qx w.heap.size w)(hb:Bw w w'):Qx w'.heap.size w':=(h.next hb (yd _)).more hb.size
structure Qn(w:Wo):Prop where
 tab:qc w.heap.size w
 err:q8 w.heap.size w
 pow:Qx w.heap.size w
 ml:ML w
theorem Qn.up{w w':Wo}(h:Qn w)(hb:Bw w w'):Qn w':=⟨Ag h.tab hb,Ah h.err hb,Lz h.pow hb,h.ml.below hb⟩
end Go.Proofs.YtpaecnbdoljafaaGreatDoor
namespace Go.Proofs.YtpaecnbdoljafaaGreatDoor
open Go.RowKit Go.Sort Go.Proofs.Tryz
theorem Ai{m:JM}{t:List UInt8}(h:(m.toL.find? fun q=>q.1 ==t)=none):∀ q∈m.toL,q.1≠t:=fun q hq e=>by
 have:=List.find?_eq_none.1 h q hq;simp[e]at this
theorem LA(v:JV)(htw:zw v=false)(t:List UInt8)(ht:t.length<=1048576)(ty:TypeId)(p:Value)(w:Wo)(S:Nat->Prop)(h:zl w S v (.iface ty p)):
  Calls prog 113 #[.iface ty p,.string (zi t)] w fun e w'=>w=w'/\((∃ x,e= .returned (.tuple #[x,.bool false])/\zL v t=none)∨∃ (x:Value) (u:JV),e= .returned (.tuple #[x,.bool true])/\zL v t=some u/\zl w S u x):=by
 have leaf:(∀ w:Wo,(Instr.typeAssert (.iface ty p) 61 102 true).run prog w= .ok (.tuple #[.pointer none,.bool false]) w)->(∀ w:Wo,(Instr.typeAssert (.iface ty p) 61 173 true).run prog w= .ok (.tuple #[.pointer none,.bool false]) w)->zL v t=none ->
   Calls prog 113 #[.iface ty p,.string (zi t)] w fun e w'=>w=w'/\((∃ x,e= .returned (.tuple #[x,.bool false])/\zL v t=none)∨∃ (x:Value) (u:JV),e= .returned (.tuple #[x,.bool true])/\zL v t=some u/\zl w S u x):=fun h1 h2 hc=>by
  have HC:=zh hc;clear hc h;generalize zi t=N at *;go_in;go_wp2;go_ret2;exact⟨rfl,.inl ⟨_,rfl,uh HC⟩⟩
 cases v with
 | nul=>rw[zl]at h;injection h with a b;subst a;subst b;exact leaf (fun _=>by kernel_rfl) (fun _=>by kernel_rfl) rfl
 | tt=>rw[zl]at h;injection h with a b;subst a;subst b;exact leaf (fun _=>by kernel_rfl) (fun _=>by kernel_rfl) rfl
 | ff=>rw[zl]at h;injection h with a b;subst a;subst b;exact leaf (fun _=>by kernel_rfl) (fun _=>by kernel_rfl) rfl
 | num l=>rw[zl]at h;obtain⟨z,h,_⟩:=h;injection h with a b;subst a;subst b;exact leaf (fun _=>by kernel_rfl) (fun _=>by kernel_rfl) rfl
 | str l=>rw[zl]at h;injection h with a b;subst a;subst b;exact leaf (fun _=>by kernel_rfl) (fun _=>by kernel_rfl) rfl
 | arr l=>
  clear leaf;rw[zl]at h;obtain⟨P,sv,k,h,Z,R,y,F⟩:=h;injection h with h1 h2;subst h1;subst h2;obtain⟨a,g,Q,rfl,r,f⟩:=Xc y;obtain⟨hxl,d⟩:=Gt l k F;have T:w.cell? ⟨P,0,none⟩=some (.slice a k.length Q):=by rw[yE R];rfl
  have t1:∀ w:Wo,(Instr.typeAssert (.iface 102 (.pointer (some ⟨P,0,none⟩))) 61 102 true).run prog w= .ok (.tuple #[.pointer (some ⟨P,0,none⟩),.bool true]) w:=fun _=>by kernel_rfl
  have G:=Ad (zi t) w (by rw[zS];exact ht);rw[Zd]at G
  cases hx:qJ t with
  | none=>
   have J:Vd t= .tuple #[.int .i64 0,.bool false]:=by unfold Vd;rw[hx]
   rw[J]at G;have n:=zh G;have HC:Hid (zL (.arr l) t=none):=by show _=_;rw[Ja,hx];rfl
   clear G J hx F y d f r;generalize zi t=N at *;go_in;go_wp2_with fail;refine (uh n).mono ?_;rintro e w1 ⟨rfl,rfl⟩;clear n;go_wp2;go_ret2;exact⟨rfl,.inl ⟨_,rfl,uh HC⟩⟩
  | some i=>
   have J:Vd t= .tuple #[.int .i64 (i:Int),.bool true]:=by unfold Vd;rw[hx]
   rw[J]at G;have n:=zh G;by_cases hl:i<k.length
   ·have tl:¬ (k.length:Int)<=(i:Int):=by omega
    have Y:decide ((k.length:Int)<=(i:Int))=false:=yj (by omega);have hltI:(i:Int)<(k.length:Int):=by omega
    have hci:=f i hl;obtain rfl:=(r (by omega)).1;have HC:Hid (zL (.arr l) t=some (l.toL[i]'(by omega))/\zl w S (l.toL[i]'(by omega)) k[i]):=⟨by rw[Ja,hx];simp[show i<l.toL.length by omega],d i hl (by omega)⟩;clear G J hx F y d f r;generalize k[i]=xi at *;generalize zi t=N at *;go_in;go_wp2_with fail;refine (uh n).mono ?_;rintro e w1 ⟨rfl,rfl⟩;clear n;go_wp2;go_ret2;exact⟨rfl,.inr ⟨_,_,rfl,(uh HC).1,(uh HC).2⟩⟩
   ·have tl:(k.length:Int)<=(i:Int):=by omega
    have Y:decide ((k.length:Int)<=(i:Int))=true:=yi (by omega);have HC:Hid (zL (.arr l) t=none):=by show _=_;rw[Ja,hx];simp;omega
    clear G J hx F y d f r;generalize zi t=N at *;go_in;go_wp2_with fail;refine (uh n).mono ?_;rintro e w1 ⟨rfl,rfl⟩;clear n;go_wp2;go_ret2;exact⟨rfl,.inl ⟨_,rfl,uh HC⟩⟩
 | obj m=>
  clear leaf;rw[zl]at h;obtain⟨O,mb,nn,k,h,ad,aa,U,C,_,I⟩:=h;injection h with h1 h2;subst h1;subst h2;obtain⟨j,d⟩:=Xd m k I;rw[zw]at htw;have H:=(Us m [] htw).1;have B:(k.map (·.1)).Nodup:=by rw[j];exact H
  have T:w.cell? ⟨O,0,none⟩=some (.map (some mb)):=by rw[yE U];rfl
  have t1:∀ w:Wo,(Instr.typeAssert (.iface 173 (.pointer (some ⟨O,0,none⟩))) 61 102 true).run prog w= .ok (.tuple #[.pointer none,.bool false]) w:=fun _=>by kernel_rfl
  have t2:∀ w:Wo,(Instr.typeAssert (.iface 173 (.pointer (some ⟨O,0,none⟩))) 61 173 true).run prog w= .ok (.tuple #[.pointer (some ⟨O,0,none⟩),.bool true]) w:=fun _=>by kernel_rfl
  obtain⟨xv,A,o⟩:=Rr C t (by omega);have s:=Rq t k;rw[j]at s
  cases hf:m.toL.find? fun q=>q.1 ==t with
  | none=>
   have HC:Hid (zL (.obj m) t=none):=by show _=_;rw[YN,hf];rfl
   have K:(Q4 k t).isSome=false:=by
    rw[s,List.contains_eq_mem,decide_eq_false_iff_not,Gk];intro hm;obtain⟨q,V,e⟩:=yN.1 hm;exact Ai hf q V e
   rw[K]at A;clear I d j H B hf s K o C htw;generalize zi t=N at *;go_in;go_wp2;go_ret2;exact⟨rfl,.inl ⟨_,rfl,uh HC⟩⟩
  | some q=>
   have V:=List.mem_of_find?_eq_some hf;have W:q.1=t:=by have:=List.find?_some hf;simpa using this
   obtain⟨x0,M,L⟩:=d q.1 q.2 V;have E:=Ol k B M;rw[W]at E;have D:(Q4 k t).isSome=true:=by rw[E];rfl
   have X:x0=xv:=by have:=o D;rw[E]at this;injection this
   subst X;rw[D]at A;have HC:Hid (zL (.obj m) t=some q.2/\zl w S q.2 x0):=⟨by rw[YN,hf];rfl,L⟩;clear I d j H B hf s D o C htw E M L;generalize zi t=N at *;go_in;go_wp2;go_ret2;exact⟨rfl,.inr ⟨_,_,rfl,(uh HC).1,(uh HC).2⟩⟩
end Go.Proofs.YtpaecnbdoljafaaGreatDoor
