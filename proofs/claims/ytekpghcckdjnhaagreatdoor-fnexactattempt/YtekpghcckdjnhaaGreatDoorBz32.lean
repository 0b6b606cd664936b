import Derived.Test.YtekpghcckdjnhaaGreatDoorBz30
import Derived.Test.YtekpghcckdjnhaaGreatDoorBz31
import Derived.Test.YtekpghcckdjnhaaGreatDoorBz26
set_option maxRecDepth 100000
set_option maxHeartbeats 8000000
namespace Go.Proofs.YtekpghcckdjnhaaGreatDoor
open Go.RowKit Go.Proofs.Tryz
def zb5(w:Wo)(o:Sum Nat JV)(e:Ending)(w':Wo):Prop:=
 Bw w w'/\match o with
 | .inl c=>e= .returned (.tuple #[.nilIface,.int .i64 c])
 | .inr v=>∃ (t:TypeId) (p:Value),e= .returned (.tuple #[.iface t p,.int .i64 0])/\zi w' (fun k=>w.heap.size<=k/\k<w'.heap.size) v (.iface t p)
theorem zb6(s:Bs)(w:Wo)(hT:qJ w.heap.size w)(hE:Qr w.heap.size w)(hP:Jd w.heap.size w)(hz:s.size<=9223372036854775807):
  Calls prog 99 #[.string s] w (zb5 w (ZI s)):=by
 have M:∀ (fn:Fn) (first cap:Array Value) (w:Wo),(Instr.makeFunc fn first cap).run prog w= .ok (.func fn first cap) w:=fun _ _ _ _=>rfl;by_cases m:20000<s.size
 ·have tl:((20000:Int)<(s.size:Int))=True:=eq_true (by omega);have f:Hid (ZI s= .inl 1):=by show _=_;rw[ZI,yg m]
  clear hT hE hP m;go_in;go_wp2;go_ret2;exact⟨yH _ _,by rw[uh f];rfl⟩
 ·have tl:((20000:Int)<(s.size:Int))=False:=yQ (by omega);have h:=zb (zbU s w (by omega) hT hE);have a:Hid (ZI s=match Qj s with
   | none=>.inl 2
   | some v=>if zY v then .inl 3 else if zy v then .inl 4 else if 100<zL v∨3000<zt v then .inl 5 else .inr v):=by show _=_;exact (show ZI s=_ from by unfold ZI;exact yf m).trans (by cases Qj s<;>rfl)
  cases hd:Qj s with
  | none=>
   rw[hd]at h a;clear hT hE hP m hd;go_in;go_wp2_with fail;refine (uh h).mono ?_;rintro e u ⟨g,z,rfl⟩;clear h;go_wp2;go_ret2;exact⟨g,by rw[uh a];rfl⟩
  | some v=>
   obtain⟨n,J,L⟩:=FC hd;have K:=(Gy v).1;have F:=zb hP;have P:s.size<=20000:=by omega
   rw[hd]at h a;clear hT hE hP m hd;go_in;go_wp2_with fail;refine (uh h).mono ?_;rintro e u ⟨g,z,t,p,rfl,B,E,A,d⟩;have H:=B.cell;have cp:=E.cell;have y:=A.big;have ct:=A.twice;have D:=zb B;have i:=zb d;clear h B E A d
   cases hb:zY v with
   | true=>
    rw[hb]at y;rw[hb]at a;clear hb;go_wp2;go_ret2;exact⟨g,by rw[uh a];rfl⟩
   | false=>
    rw[hb]at y a
    cases ht:zy v with
    | true=>
     rw[ht]at ct a;clear hb ht;go_wp2;go_ret2;exact⟨g,by rw[uh a];rfl⟩
    | false=>
     rw[ht]at ct a;have b:=zb (uh i hb ht);have C:=zb (Fc v n ht u _ t p (uh b) (fun k hk=>hk.2) (((uh F).next g (ye _)).more g.size) (by omega) (by omega) (by omega));clear hb ht i n;go_wp2_with fail;refine (uh C).mono ?_;rintro e o ⟨rfl,q⟩;have j:Bw o (o.alloc (ql (zL v) (zt v) (Go.Proofs.YtekpghcckdjnhaaGreatDoor.ct v).length)):=(yH _ _).alloc (ye _) _;have I:=(((uh D).below q).below j).cell;have x:=zb (zh (zh g q) j);have G:Hid (zi (o.alloc (ql (zL v) (zt v) (Go.Proofs.YtekpghcckdjnhaaGreatDoor.ct v).length)) (fun k=>w.heap.size<=k/\k<(o.alloc (ql (zL v) (zt v) (Go.Proofs.YtekpghcckdjnhaaGreatDoor.ct v).length)).heap.size) v (.iface t p)):=by
      have N:=q.size;have O:=j.size;exact zi.keep (w:=u) (S:=fun k=>w.heap.size+4<=k/\k<u.heap.size) (fun k hk=>(j.block k (by have:=hk.2;omega)).trans (q.block k hk.2)) (fun k hk=>⟨by have:=hk.1;omega,by have:=hk.2;omega⟩) v _ (uh b)
     clear C H cp y ct D b j;simp only[JX];by_cases l:100<zL v
     ·have Q:((100:Int)<(zL v:Int))=True:=eq_true (by omega);have f:Hid (ZI s= .inl 5):=by show _=_;rw[uh a];simp[l]
      clear a l;go_wp2;go_ret2;exact⟨uh x,by rw[uh f];rfl⟩
     ·have Q:((100:Int)<(zL v:Int))=False:=yQ (by omega);by_cases r:3000<zt v
      ·have R:((3000:Int)<(zt v:Int))=True:=eq_true (by omega);have f:Hid (ZI s= .inl 5):=by show _=_;rw[uh a];simp[r]
       clear a l r;go_wp2;go_ret2;exact⟨uh x,by rw[uh f];rfl⟩
      ·have R:((3000:Int)<(zt v:Int))=False:=yQ (by omega);have f:Hid (ZI s= .inr v):=by show _=_;rw[uh a];simp[l,r]
       clear a l r;go_wp2;go_ret2;exact⟨uh x,by rw[uh f];exact⟨t,p,rfl,uh G⟩⟩
end Go.Proofs.YtekpghcckdjnhaaGreatDoor
namespace Go.Proofs.YtekpghcckdjnhaaGreatDoor
open Go.RowKit Go.Sort Go.Proofs.Tryz
theorem zb7{m:JM}{t:List UInt8}(h:(m.toL.find? fun q=>q.1 ==t)=none):∀ q∈m.toL,q.1≠t:=fun q hq e=>by
 have:=List.find?_eq_none.1 h q hq;simp[e]at this
theorem Po(v:JV)(htw:zy v=false)(t:List UInt8)(ht:t.length<=1048576)(ty:TypeId)(p:Value)(w:Wo)(S:Nat->Prop)(h:zi w S v (.iface ty p)):
  Calls prog 136 #[.iface ty p,.string (ze t)] w fun e w'=>w=w'/\((∃ x,e= .returned (.tuple #[x,.bool false])/\zQ v t=none)∨∃ (x:Value) (u:JV),e= .returned (.tuple #[x,.bool true])/\zQ v t=some u/\zi w S u x):=by
 have leaf:(∀ w:Wo,(Instr.typeAssert (.iface ty p) 66 195 true).run prog w= .ok (.tuple #[.pointer none,.bool false]) w)->(∀ w:Wo,(Instr.typeAssert (.iface ty p) 66 225 true).run prog w= .ok (.tuple #[.pointer none,.bool false]) w)->zQ v t=none ->
   Calls prog 136 #[.iface ty p,.string (ze t)] w fun e w'=>w=w'/\((∃ x,e= .returned (.tuple #[x,.bool false])/\zQ v t=none)∨∃ (x:Value) (u:JV),e= .returned (.tuple #[x,.bool true])/\zQ v t=some u/\zi w S u x):=fun h1 h2 hc=>by
  have A:=zb hc;clear hc h;generalize ze t=st at *;go_in;go_wp2;go_ret2;exact⟨rfl,.inl ⟨_,rfl,uh A⟩⟩
 cases v with
 | nul=>rw[zi]at h;injection h with a b;subst a;subst b;exact leaf (fun _=>by kernel_rfl) (fun _=>by kernel_rfl) rfl
 | tt=>rw[zi]at h;injection h with a b;subst a;subst b;exact leaf (fun _=>by kernel_rfl) (fun _=>by kernel_rfl) rfl
 | ff=>rw[zi]at h;injection h with a b;subst a;subst b;exact leaf (fun _=>by kernel_rfl) (fun _=>by kernel_rfl) rfl
 | num l=>rw[zi]at h;obtain⟨z,h,_⟩:=h;injection h with a b;subst a;subst b;exact leaf (fun _=>by kernel_rfl) (fun _=>by kernel_rfl) rfl
 | str l=>rw[zi]at h;injection h with a b;subst a;subst b;exact leaf (fun _=>by kernel_rfl) (fun _=>by kernel_rfl) rfl
 | arr l=>
  clear leaf;rw[zi]at h;obtain⟨P,sv,k,h,Z,R,y,G⟩:=h;injection h with h1 h2;subst h1;subst h2;obtain⟨a,g,Q,rfl,r,f⟩:=VH y;obtain⟨hxl,d⟩:=JW l k G;have T:w.cell? ⟨P,0,none⟩=some (.slice a k.length Q):=by rw[yF R];rfl
  have t1:∀ w:Wo,(Instr.typeAssert (.iface 195 (.pointer (some ⟨P,0,none⟩))) 66 195 true).run prog w= .ok (.tuple #[.pointer (some ⟨P,0,none⟩),.bool true]) w:=fun _=>by kernel_rfl
  have H:=XO (ze t) w (by rw[Zw];exact ht);rw[Zf]at H
  cases hx:qZ t with
  | none=>
   have K:Jr t= .tuple #[.int .i64 0,.bool false]:=by unfold Jr;rw[hx]
   rw[K]at H;have n:=zb H;have A:Hid (zQ (.arr l) t=none):=by show _=_;rw[Jv,hx];rfl
   clear H K hx G y d f r;generalize ze t=st at *;go_in;go_wp2_with fail;refine (uh n).mono ?_;rintro e w1 ⟨rfl,rfl⟩;clear n;go_wp2;go_ret2;exact⟨rfl,.inl ⟨_,rfl,uh A⟩⟩
  | some i=>
   have K:Jr t= .tuple #[.int .i64 (i:Int),.bool true]:=by unfold Jr;rw[hx]
   rw[K]at H;have n:=zb H;by_cases hl:i<k.length
   ·have tl:¬ (k.length:Int)<=(i:Int):=by omega
    have Y:decide ((k.length:Int)<=(i:Int))=false:=yk (by omega);have hltI:(i:Int)<(k.length:Int):=by omega
    have hci:=f i hl;obtain rfl:=(r (by omega)).1;have A:Hid (zQ (.arr l) t=some (l.toL[i]'(by omega))/\zi w S (l.toL[i]'(by omega)) k[i]):=⟨by rw[Jv,hx];simp[show i<l.toL.length by omega],d i hl (by omega)⟩;clear H K hx G y d f r;generalize k[i]=xi at *;generalize ze t=st at *;go_in;go_wp2_with fail;refine (uh n).mono ?_;rintro e w1 ⟨rfl,rfl⟩;clear n;go_wp2;go_ret2;exact⟨rfl,.inr ⟨_,_,rfl,(uh A).1,(uh A).2⟩⟩
   ·have tl:(k.length:Int)<=(i:Int):=by omega
    have Y:decide ((k.length:Int)<=(i:Int))=true:=yj (by omega);have A:Hid (zQ (.arr l) t=none):=by show _=_;rw[Jv,hx];simp;omega
    clear H K hx G y d f r;generalize ze t=st at *;go_in;go_wp2_with fail;refine (uh n).mono ?_;rintro e w1 ⟨rfl,rfl⟩;clear n;go_wp2;go_ret2;exact⟨rfl,.inl ⟨_,rfl,uh A⟩⟩
 | obj m=>
  clear leaf;rw[zi]at h;obtain⟨O,mb,nn,k,h,ad,aa,U,D,_,J⟩:=h;injection h with h1 h2;subst h1;subst h2;obtain⟨j,d⟩:=Yu m k J;rw[zy]at htw;have I:=(Km m [] htw).1;have C:(k.map (·.1)).Nodup:=by rw[j];exact I
  have T:w.cell? ⟨O,0,none⟩=some (.map (some mb)):=by rw[yF U];rfl
  have t1:∀ w:Wo,(Instr.typeAssert (.iface 225 (.pointer (some ⟨O,0,none⟩))) 66 195 true).run prog w= .ok (.tuple #[.pointer none,.bool false]) w:=fun _=>by kernel_rfl
  have t2:∀ w:Wo,(Instr.typeAssert (.iface 225 (.pointer (some ⟨O,0,none⟩))) 66 225 true).run prog w= .ok (.tuple #[.pointer (some ⟨O,0,none⟩),.bool true]) w:=fun _=>by kernel_rfl
  obtain⟨xv,B,o⟩:=RK D t (by omega);have s:=RJ t k;rw[j]at s
  cases hf:m.toL.find? fun q=>q.1 ==t with
  | none=>
   have A:Hid (zQ (.obj m) t=none):=by show _=_;rw[Vo,hf];rfl
   have L:(JB k t).isSome=false:=by
    rw[s,List.contains_eq_mem,decide_eq_false_iff_not,QE];intro hm;obtain⟨q,V,e⟩:=yO.1 hm;exact zb7 hf q V e
   rw[L]at B;clear J d j I C hf s L o D htw;generalize ze t=st at *;go_in;go_wp2;go_ret2;exact⟨rfl,.inl ⟨_,rfl,uh A⟩⟩
  | some q=>
   have V:=List.mem_of_find?_eq_some hf;have W:q.1=t:=by have:=List.find?_some hf;simpa using this
   obtain⟨x0,N,M⟩:=d q.1 q.2 V;have F:=Wh k C N;rw[W]at F;have E:(JB k t).isSome=true:=by rw[F];rfl
   have X:x0=xv:=by have:=o E;rw[F]at this;injection this
   subst X;rw[E]at B;have A:Hid (zQ (.obj m) t=some q.2/\zi w S q.2 x0):=⟨by rw[Vo,hf];rfl,M⟩;clear J d j I C hf s E o D htw F N M;generalize ze t=st at *;go_in;go_wp2;go_ret2;exact⟨rfl,.inr ⟨_,_,rfl,(uh A).1,(uh A).2⟩⟩
end Go.Proofs.YtekpghcckdjnhaaGreatDoor
namespace Go.Proofs.YtekpghcckdjnhaaGreatDoor
open Go.RowKit Go.Proofs.Tryz
theorem qJ.more{B B':Nat}{w:Wo}(h:qJ B w)(hB:B<=B'):qJ B' w:=by
 obtain⟨d,a,b⟩:=h;exact⟨d,yP a hB,b⟩
theorem Qr.more{B B':Nat}{w:Wo}(h:Qr B w)(hB:B<=B'):Qr B' w:=⟨yE h.1 hB,h.2⟩
theorem zb8{w w':Wo}(h:qJ w.heap.size w)(hb:Bw w w'):qJ w'.heap.size w':=qJ.more (qJ.next h hb (ye _)) hb.size
theorem zb9{w w':Wo}(h:Qr w.heap.size w)(hb:Bw w w'):Qr w'.heap.size w':=Qr.more (Qr.next h hb (ye _)) hb.size
theorem zca{w w':Wo}(h:Jd w.heap.size w)(hb:Bw w w'):Jd w'.heap.size w':=(h.next hb (ye _)).more hb.size
structure Qh(w:Wo):Prop where
 tab:qJ w.heap.size w
 err:Qr w.heap.size w
 pow:Jd w.heap.size w
 ml:ML w
theorem Qh.up{w w':Wo}(h:Qh w)(hb:Bw w w'):Qh w':=⟨zb8 h.tab hb,zb9 h.err hb,zca h.pow hb,h.ml.below hb⟩
end Go.Proofs.YtekpghcckdjnhaaGreatDoor
namespace Go.Proofs.YtekpghcckdjnhaaGreatDoor
open Go.RowKit Go.Sort Go.Proofs.Tryz
end Go.Proofs.YtekpghcckdjnhaaGreatDoor
