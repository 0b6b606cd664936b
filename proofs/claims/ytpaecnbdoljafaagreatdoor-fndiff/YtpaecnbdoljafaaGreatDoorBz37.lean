import Derived.Test.YtpaecnbdoljafaaGreatDoorBz32
import Derived.Test.YtpaecnbdoljafaaGreatDoorBz35
import Derived.Test.YtpaecnbdoljafaaGreatDoorBz20
import Derived.Test.YtpaecnbdoljafaaGreatDoorBz36
set_option maxRecDepth 100000
set_option maxHeartbeats 8000000
namespace Go.Proofs.YtpaecnbdoljafaaGreatDoor
open Go.RowKit Go.Sort Go.Proofs.Tryz
theorem zdx:∀ n:Nat,Lib.decDigits n=zM n:=by
 intro n;induction n using Nat.strongRecOn with
 | _ n ih=>
  rw[Lib.decDigits];split
  ·rename_i h;rw[Jb h]
  ·rename_i h;rw[GD h,ih (n / 10) (by omega),Jb (n:=n % 10) (by omega)]
theorem zdy(k:Nat)(w:Wo)(hk:k<=1000000)(hP:QE w.heap.size w):Calls prog 197 #[.int .i64 (k:Int)] w fun e w'=>e= .returned (.string (zh (zM k)))/\Bw w w':=by
 refine (Tryz.strconv_Itoa (k:Int) (by omega) (by omega) w hP.2).mono ?_;rintro e w' ⟨rfl,n,a,rfl⟩;refine⟨?_,Tn _ _ _⟩;rw[Lib.itoa_nonneg,zdx];rfl
theorem zdz(m:JM):(zJ (zl m)).map (·.1)=(JF m.toL).map (·.1):=by
 have e:zl m=m.toL.map kt:=qh m;rw[e,← RC,List.map_map];rfl
end Go.Proofs.YtpaecnbdoljafaaGreatDoor
namespace Go.Proofs.YtpaecnbdoljafaaGreatDoor
open Go.RowKit Go.Proofs.Tryz
abbrev ZJ:=List UInt8×Value×Value
def QZ(y:ZJ):List Value:=[.string (zh y.1),y.2.1,y.2.2]
def ZQ(w:Wo)(B:Nat)(v:Value)(ys:List ZJ):Prop:=w.ownsRow B 63 3 v ys.length (ys.flatMap QZ)
theorem BK:(prog.info? 63).map (fun i=>(i.zero,i.size,i.bytes))=some (some (.agg #[.string ByteArray.empty,.nilIface,.nilIface]),3,48):=by kernel_rfl
theorem ZQ.step{w:Wo}{B:Nat}{v:Value}{ys:List ZJ}{y:ZJ}(h:w.ownsRow B 63 3 v (ys.length+1) (ys.flatMap QZ++QZ y)):ZQ w B v (ys++[y]):=by
 unfold ZQ;rw[yh,List.flatMap_append];simpa using h
theorem qf(w:Wo)(t:TypeId)(x y z:Value):∀ j u,[x,y,z][j]?=some u->(w.alloc (.cells #[x,y,z] t)).cell? ((⟨w.heap.size,0,none⟩:Addr).add j)=some u:=by
 intro j u h
 match j with
 | 0=>simp at h;subst h;simp[Addr.add]
 | 1=>simp at h;subst h;simp[Addr.add]
 | 2=>simp at h;subst h;simp[Addr.add]
 | j+3=>simp at h
theorem Xd(w:Wo)(o:Obj)(t:TypeId)(x y z:Value):∀ j u,[x,y,z][j]?=some u->((w.alloc o).alloc (.cells #[x,y,z] t)).cell? ((⟨w.heap.size+1,0,none⟩:Addr).add j)=some u:=by
 have h:=qf (w.alloc o) t x y z
 rwa [show (w.alloc o).heap.size=w.heap.size+1 from by simp]at h
def CF(B:Nat)(w w':Wo):Prop:=Below B w w'/\∀ (g:Nat) (cs:Array Value) (t:TypeId),t≠63->w.heap[g]?=some (.cells cs t (0,0))->w'.heap[g]?=some (.cells cs t (0,0))
theorem CF.refl(B:Nat)(w:Wo):CF B w w:=⟨yI _ _,fun _ _ _ _ h=>h⟩
theorem CF.trans{B:Nat}{a b c:Wo}(h:CF B a b)(k:CF B b c):CF B a c:=⟨h.1.trans k.1,fun g cs t ht hg=>k.2 g cs t ht (h.2 g cs t ht hg)⟩
theorem CF.of_below{B:Nat}{w w':Wo}(h:Bw w w')(hB:B<=w.heap.size):CF B w w':=⟨h.mono hB,fun g _ _ _ hg=>(h.block g (yC.1 hg).1).trans hg⟩
theorem CF.grown{B n:Nat}{w w':Wo}{v:Value}{xs:List Value}(h:w.ownsRow B 63 3 v n xs)(hg:w.grownBy w' v.ownBlock)(hB:B<=w.heap.size):CF B w w':=by
 refine⟨(yI B w).grown hg hB (fun k hk=>(h.lt k hk).1),fun g cs t ht hgc=>?_⟩;refine (hg.block g (yC.1 hgc).1 (fun e=>?_)).trans hgc;rcases h.2 with ⟨b,_⟩ |⟨i,d,f,b,_,a,_⟩
 ·subst b;cases e
 ·subst b;injection e with e;simp only at e;subst e;rw[hgc]at a;injection a with e;injection e with _ e;exact ht e
theorem OT.cf{B B':Nat}{w w':Wo}{r:Value}{ts:List (List UInt8)}(h:OT w B' r ts)(f:CF B w w'):OT w' B' r ts:=by
 refine⟨h.1,?_⟩;rcases h.2 with k |⟨g,b,d,l,i,j,a⟩
 ·exact .inl k
 ·exact .inr ⟨g,b,d,l,i,f.2 g _ _ (by decide) j,a⟩
def WV(n:Nat)(p:List UInt8):Option JV->Option JV->List (List UInt8)
 | some u,some v=>qS n p u v
 | _,_=>[p]
theorem BL(n:Nat)(p:List UInt8)(a b:JV)(key:List UInt8):qT n p a b key=WV n (Zp p key) (zX (zu a) key) (zX (zu b) key):=by
 unfold qT
 cases zX (zu a) key<;>cases zX (zu b) key<;>rfl
def Xe(n:Nat)(p:List UInt8):Option JV->Prop
 | none=>True
 | some u=>zD u/\zw u=false/\zm u<=n/\(ct u).length<=1000000/\p.length+2*(ct u).length<=4000000
structure GV(w:Wo)(B:Nat)(S1 S2:Nat->Prop):Prop where
 apart:∀ k,S1 k->¬ S2 k
 lt1:∀ k,S1 k->k<B
 lt2:∀ k,S2 k->k<B
 size:B<=w.heap.size
 pow:QE B w
theorem GV.next{w w':Wo}{B:Nat}{S1 S2:Nat->Prop}(h:GV w B S1 S2)(hb:Below B w w'):GV w' B S1 S2:=⟨h.apart,h.lt1,h.lt2,yQ h.size hb.size,h.pow.next hb (ye _)⟩
def FO(v:Value):Prop:=v= .nilIface∨∃ t q,v= .iface t q
def PW(P:ZJ->Prop)(w:Wo)(S1 S2:Nat->Prop)(p:List UInt8)(oa ob:Option JV):Prop:=∀ ts v1 v2,QS w S1 (WX oa ts) v1->QS w S2 (WX ob ts) v2->P (JK p ts,v1,v2)
theorem PW.here{P:ZJ->Prop}{w:Wo}{S1 S2:Nat->Prop}{p:List UInt8}{oa ob:Option JV}(h:PW P w S1 S2 p oa ob){v1 v2:Value}(h1:QS w S1 oa v1)(h2:QS w S2 ob v2):P (p,v1,v2):=h [] v1 v2 (by rw[Cp];exact h1) (by rw[Cp];exact h2)
theorem PW.back{P:ZJ->Prop}{w W:Wo}{S1 S2:Nat->Prop}{p:List UInt8}{oa ob:Option JV}(h:PW P w S1 S2 p oa ob)(h1:∀ k,S1 k->W.heap[k]?=w.heap[k]?)(h2:∀ k,S2 k->W.heap[k]?=w.heap[k]?):PW P W S1 S2 p oa ob:=
 fun ts v1 v2 r1 r2=>h ts v1 v2 (r1.keep (fun k hk=>(h1 k hk).symm) (fun _ h=>h)) (r2.keep (fun k hk=>(h2 k hk).symm) (fun _ h=>h))
theorem PW.kid{P:ZJ->Prop}{w:Wo}{S1 S2:Nat->Prop}{p:List UInt8}{a b:JV}(h:PW P w S1 S2 p (some a) (some b))(ta:zw a=false)(tb:zw b=false)(ca:zj a<=1000000)(cb:zj b<=1000000)(key:List UInt8):PW P w S1 S2 (Zp p key) (zX (zu a) key) (zX (zu b) key):=
 fun ts v1 v2 r1 r2=>h (key :: ts) v1 v2 (by rw[Cq ta ca];exact r1) (by rw[Cq tb cb];exact r2)
def ZM(P:ZJ->Prop)(zs:List ZJ)(L:List (List UInt8)):Prop:=zs.map (·.1)=L/\∀ z∈zs,FO z.2.1/\FO z.2.2/\P z
theorem RW{P:ZJ->Prop}{L:List (List UInt8)}(h:([]:List ZJ).map (·.1)=L):ZM P [] L:=⟨h,fun _ hz=>by cases hz⟩
theorem GW{P:ZJ->Prop}{p:List UInt8}{v1 v2:Value}{L:List (List UInt8)}(h:[((p,v1,v2):ZJ)].map (·.1)=L)(h1:FO v1)(h2:FO v2)(h3:P (p,v1,v2)):ZM P [(p,v1,v2)] L:=⟨h,fun z hz=>by rw[List.mem_singleton]at hz;subst hz;exact⟨h1,h2,h3⟩⟩
theorem BM{P:ZJ->Prop}{zs ys:List ZJ}{L M:List (List UInt8)}(h:ZM P zs L)(k:ZM P ys M):ZM P (zs++ys) (L++M):=⟨by rw[yx,h.1,k.1],fun z hz=>(List.mem_append.1 hz).elim (h.2 z) (k.2 z)⟩
theorem ZM.mono{P Q:ZJ->Prop}{zs:List ZJ}{L:List (List UInt8)}(h:ZM P zs L)(hq:∀ z,P z->Q z):ZM Q zs L:=⟨h.1,fun z hz=>⟨(h.2 z hz).1,(h.2 z hz).2.1,hq z (h.2 z hz).2.2⟩⟩
def AC(n:Nat):Prop:=∀ (P:ZJ->Prop) (oa ob:Option JV) (p:List UInt8) (ys:List ZJ) (lv v1 v2:Value) (w:Wo) (B:Nat) (S1 S2:Nat->Prop),Xe n p oa->Xe n p ob->(oa≠none∨ob≠none)->p.length<=4000000->ys.length+Qv oa+Qv ob<=1000000 ->
 ZQ w B lv ys->QS w S1 oa v1->QS w S2 ob v2->GV w B S1 S2->PW P w S1 S2 p oa ob ->
 Calls prog 118 #[lv,.agg #[.string (zh p),v1,v2]] w fun e w'=>∃ (r:Value) (zs:List ZJ),e= .returned r/\ZQ w' B r (ys++zs)/\ZM P zs (WV n p oa ob)/\CF B w w'
def HC(f:FuncId)(n:Nat)(a b:JV):Prop:=∀ (P:ZJ->Prop) (p:List UInt8) (ys:List ZJ) (lv:Value) (t1 t2:TypeId) (g1 g2:Addr) (w:Wo) (B:Nat) (S1 S2:Nat->Prop),p.length+2*(ct a).length<=4000000->p.length+2*(ct b).length<=4000000->ys.length+zj a+zj b<=1000000 ->
 ZQ w B lv ys->zk w S1 a (.iface t1 (.pointer (some g1)))->zk w S2 b (.iface t2 (.pointer (some g2)))->GV w B S1 S2->PW P w S1 S2 p (some a) (some b) ->
 Calls prog f #[lv,.string (zh p),.pointer (some g1),.pointer (some g2)] w fun e w'=>∃ (r:Value) (zs:List ZJ),e= .returned r/\ZQ w' B r (ys++zs)/\ZM P zs ((Zc a b).flatMap (qT n p a b))/\CF B w w'
theorem F0{w:Wo}{S:Nat->Prop}{a:JV}{v:Value}(h:zk w S a v)(hn:kd a≠5):∀ X:Wo,(Instr.typeAssert v 61 102 true).run prog X= .ok (.tuple #[.pointer none,.bool false]) X:=by
 intro X
 cases a with
 | nul=>rw[zk]at h;subst h;kernel_rfl
 | tt=>rw[zk]at h;subst h;kernel_rfl
 | ff=>rw[zk]at h;subst h;kernel_rfl
 | num l=>rw[zk]at h;obtain⟨z,h,_⟩:=h;subst h;kernel_rfl
 | str l=>rw[zk]at h;subst h;kernel_rfl
 | arr l=>exact absurd rfl hn
 | obj m=>rw[zk]at h;obtain⟨f,b,d,g,h,_⟩:=h;subst h;kernel_rfl
theorem F1{w:Wo}{S:Nat->Prop}{a:JV}{v:Value}(h:zk w S a v)(hn:kd a≠6):∀ X:Wo,(Instr.typeAssert v 61 173 true).run prog X= .ok (.tuple #[.pointer none,.bool false]) X:=by
 intro X
 cases a with
 | nul=>rw[zk]at h;subst h;kernel_rfl
 | tt=>rw[zk]at h;subst h;kernel_rfl
 | ff=>rw[zk]at h;subst h;kernel_rfl
 | num l=>rw[zk]at h;obtain⟨z,h,_⟩:=h;subst h;kernel_rfl
 | str l=>rw[zk]at h;subst h;kernel_rfl
 | arr l=>rw[zk]at h;obtain⟨b,d,f,h,_⟩:=h;subst h;kernel_rfl
 | obj m=>exact absurd rfl hn
theorem BN(X:Wo):(Instr.typeAssert .nilIface 61 102 true).run prog X= .ok (.tuple #[.pointer none,.bool false]) X:=by kernel_rfl
theorem BO(X:Wo):(Instr.typeAssert .nilIface 61 173 true).run prog X= .ok (.tuple #[.pointer none,.bool false]) X:=by kernel_rfl
theorem UT(g:Addr)(X:Wo):(Instr.typeAssert (.iface 102 (.pointer (some g))) 61 102 true).run prog X= .ok (.tuple #[.pointer (some g),.bool true]) X:=by kernel_rfl
theorem F2(g:Addr)(X:Wo):(Instr.typeAssert (.iface 173 (.pointer (some g))) 61 173 true).run prog X= .ok (.tuple #[.pointer (some g),.bool true]) X:=by kernel_rfl
theorem RY(g:Addr)(X:Wo):(Instr.typeAssert (.iface 173 (.pointer (some g))) 61 102 true).run prog X= .ok (.tuple #[.pointer none,.bool false]) X:=by kernel_rfl
theorem zdA (P:ZJ->Prop) (oa ob:Option JV) (p:List UInt8) (ys:List ZJ) (lv v1 v2:Value) (w:Wo) (B:Nat) (S1 S2:Nat->Prop) (hnn:oa≠none∨ob≠none) (hone:oa=none∨ob=none) (hl:p.length<=4000000) (hy:ys.length<=1000000)
  (hr:ZQ w B lv ys) (h1:QS w S1 oa v1) (h2:QS w S2 ob v2) (htw:GV w B S1 S2) (HP0:Hid (P (p,v1,v2))):
  Calls prog 118 #[lv,.agg #[.string (zh p),v1,v2]] w fun e w'=>∃ (r:Value) (zs:List ZJ),e= .returned r/\ZQ w' B r (ys++zs)/\ZM P zs ([p])/\CF B w w':=by
 obtain⟨i0,K,L,M,N⟩:=info_parts BK;have O:FT oa ob=false:=by
  rcases hone with rfl | rfl
  ·rfl
  ·cases oa<;>rfl
 obtain⟨R,q⟩:∃ R,R=[p]:=⟨_,rfl⟩;rw[← q];have ga:=hl;have gb:=hl
 cases oa with
 | none=>
  cases ob with
  | none=>rcases hnn with h | h<;>exact absurd rfl h
  | some b=>
   obtain⟨y,v,rfl⟩:=Qe h2;have Z:v1= .nilIface:=h1;subst Z;have a1:=BN;have a2:=BO;have E:(w.alloc (.cells #[.string (zh p),.nilIface,.iface y v] 63)).heap.size=w.heap.size+1:=by simp
   have k0:(w.alloc (.cells #[.string (zh p),.nilIface,.iface y v] 63)).cell? ⟨w.heap.size,0,none⟩=some (.string (zh p)):=qf w 63 (.string (zh p)) (.nilIface) (.iface y v) 0 _ rfl;have k1:(w.alloc (.cells #[.string (zh p),.nilIface,.iface y v] 63)).cell? ⟨w.heap.size,1,none⟩=some (.nilIface):=qf w 63 (.string (zh p)) (.nilIface) (.iface y v) 1 _ rfl;have k2:(w.alloc (.cells #[.string (zh p),.nilIface,.iface y v] 63)).cell? ⟨w.heap.size,2,none⟩=some (.iface y v):=qf w 63 (.string (zh p)) (.nilIface) (.iface y v) 2 _ rfl;have d:(w.alloc (.cells #[.string (zh p),.nilIface,.iface y v] 63)).ownsRow B 63 3 lv ys.length (ys.flatMap QZ):=Zd hr ((yI _ _).alloc (ye _) _);have C:Hid (CF B w (w.alloc (.cells #[.string (zh p),.nilIface,.iface y v] 63))):=CF.of_below ((yI _ _).alloc (ye _) _) htw.size;have g:=Va htw.apart (h1.keep (w':=w.alloc (.cells #[.string (zh p),.nilIface,.iface y v] 63)) (S':=S1) (fun k hk=>Below.heap_alloc _ _ k (by have:=htw.lt1 k hk;have:=htw.size;omega)) (fun _ h=>h)) (h2.keep (w':=w.alloc (.cells #[.string (zh p),.nilIface,.iface y v] 63)) (S':=S2) (fun k hk=>Below.heap_alloc _ _ k (by have:=htw.lt2 k hk;have:=htw.size;omega)) (fun _ h=>h)) hnn;have I:=htw.size;rw[O]at g;have J:=g;clear g;have z:=ze q;clear q hr h1 h2 htw hnn ga gb O;go_in;have A:B<=(w.alloc (.cells #[.string (zh p),.nilIface,.iface y v] 63)).heap.size:=by omega
   go_wp2_with (at_builtin;refine wpList_append_own _ rfl (.tmp 64) (.tmp 66) 55 rfl B 63 i0 (.agg #[.string ByteArray.empty,.nilIface,.nilIface]) 3 48 underlying55 K L M N rfl (by decide) _ _ _ rfl (d.alloc _) ⟨w.heap.size+1,0,none⟩ 1 1 [.string (zh p),.nilIface,.iface y v] rfl rfl (Xd _ _ _ _ _ _) (by intro u F;simp at F;rcases F with rfl | rfl | rfl<;>rfl) (by unfold maxLen;omega) (by omega) (by simp;omega) ?_);intro T G i o _;have S:Hid (ZQ G B T (ys++[(p,.nilIface,.iface y v)])):=ZQ.step i;have Q:Hid (CF B w G):=((uh C).trans (CF.of_below ((yI _ _).alloc (ye _) _) A)).trans (CF.grown (d.alloc _) o (by simp;omega));clear i o d C;go_wp2;go_ret;exact⟨_,[(p,.nilIface,.iface y v)],rfl,uh S,GW (uh z).symm (by first | exact .inl rfl | exact .inr ⟨_,_,rfl⟩) (by first | exact .inl rfl | exact .inr ⟨_,_,rfl⟩) (uh HP0),uh Q⟩
 | some a=>
  have hob:ob=none:=by rcases hone with h | h;cases h;exact h
  subst hob;have e2:v2= .nilIface:=h2;subst e2;by_cases k5:kd a=5
  ·obtain⟨l,rfl⟩:∃ l,a= .arr l:=by cases a<;>first | exact⟨_,rfl⟩ |(simp[kd]at k5)
   obtain⟨n,Z⟩:∃ n,v1= .iface 102 (.pointer (some ⟨n,0,none⟩)):=by
    have D:zk w S1 (.arr l) v1:=h1;rw[zk]at D;obtain⟨n,sv,xs,h,_⟩:=D;exact⟨n,h⟩
   subst Z;have a1:=UT ⟨n,0,none⟩;have a2:=BN;clear k5;have E:(w.alloc (.cells #[.string (zh p),.iface 102 (.pointer (some ⟨n,0,none⟩)),.nilIface] 63)).heap.size=w.heap.size+1:=by simp
   have k0:(w.alloc (.cells #[.string (zh p),.iface 102 (.pointer (some ⟨n,0,none⟩)),.nilIface] 63)).cell? ⟨w.heap.size,0,none⟩=some (.string (zh p)):=qf w 63 (.string (zh p)) (.iface 102 (.pointer (some ⟨n,0,none⟩))) (.nilIface) 0 _ rfl;have k1:(w.alloc (.cells #[.string (zh p),.iface 102 (.pointer (some ⟨n,0,none⟩)),.nilIface] 63)).cell? ⟨w.heap.size,1,none⟩=some (.iface 102 (.pointer (some ⟨n,0,none⟩))):=qf w 63 (.string (zh p)) (.iface 102 (.pointer (some ⟨n,0,none⟩))) (.nilIface) 1 _ rfl;have k2:(w.alloc (.cells #[.string (zh p),.iface 102 (.pointer (some ⟨n,0,none⟩)),.nilIface] 63)).cell? ⟨w.heap.size,2,none⟩=some (.nilIface):=qf w 63 (.string (zh p)) (.iface 102 (.pointer (some ⟨n,0,none⟩))) (.nilIface) 2 _ rfl;have bX:Bw w (w.alloc (.cells #[.string (zh p),.iface 102 (.pointer (some ⟨n,0,none⟩)),.nilIface] 63)):=(yI _ _).alloc (ye _) _;have HB:=ze bX;have H:=ze htw;have X:=ze h1;have Y:=ze h2;have V:=ze hnn;have z:=ze q;have HE:=ze O;have HR:=ze hr;have I:=htw.size;clear bX q hr h1 h2 htw hnn ga gb O;go_in;go_wp2_with fail;go_quiet (fail);have U:Hid (Bw w ((w.alloc (.cells #[.string (zh p),.iface 102 (.pointer (some ⟨n,0,none⟩)),.nilIface] 63)).drewN nq)):=YQ (uh HB) _;have hXW:((w.alloc (.cells #[.string (zh p),.iface 102 (.pointer (some ⟨n,0,none⟩)),.nilIface] 63)).drewN nq).heap.size=w.heap.size+1:=E;have q0:((w.alloc (.cells #[.string (zh p),.iface 102 (.pointer (some ⟨n,0,none⟩)),.nilIface] 63)).drewN nq).cell? ⟨w.heap.size,0,none⟩=some (.string (zh p)):=k0;have s:((w.alloc (.cells #[.string (zh p),.iface 102 (.pointer (some ⟨n,0,none⟩)),.nilIface] 63)).drewN nq).cell? ⟨w.heap.size,1,none⟩=some (.iface 102 (.pointer (some ⟨n,0,none⟩))):=k1;have v:((w.alloc (.cells #[.string (zh p),.iface 102 (.pointer (some ⟨n,0,none⟩)),.nilIface] 63)).drewN nq).cell? ⟨w.heap.size,2,none⟩=some (.nilIface):=k2;clear k0 k1 k2 HB E;generalize (w.alloc (.cells #[.string (zh p),.iface 102 (.pointer (some ⟨n,0,none⟩)),.nilIface] 63)).drewN nq=W at *;have q3:∀ j u,[Value.string (zh p),.iface 102 (.pointer (some ⟨n,0,none⟩)),.nilIface][j]?=some u->W.cell? ⟨w.heap.size,j,none⟩=some u:=fun j u h=>by
    match j with
    | 0=>simp at h;subst h;exact q0
    | 1=>simp at h;subst h;exact s
    | 2=>simp at h;subst h;exact v
    | j+3=>simp at h
   have A:B<=W.heap.size:=by omega
   have J:=Va (uh H).apart ((uh X).keep (w':=W) (S':=S1) (fun k hk=>(uh U).block k (by have:=(uh H).lt1 k hk;omega)) (fun _ h=>h)) ((uh Y).keep (w':=W) (S':=S2) (fun k hk=>(uh U).block k (by have:=(uh H).lt2 k hk;omega)) (fun _ h=>h)) (uh V);rw[uh HE]at J;have d:W.ownsRow B 63 3 lv ys.length (ys.flatMap QZ):=Zd (uh HR) (uh U);have C:Hid (CF B w W):=CF.of_below (uh U) I;clear H X Y V HE HR U q3 hXW;go_wp2_with (at_builtin;refine wpList_append_own _ rfl (.tmp 64) (.tmp 66) 55 rfl B 63 i0 (.agg #[.string ByteArray.empty,.nilIface,.nilIface]) 3 48 underlying55 K L M N rfl (by decide) _ _ _ rfl (d.alloc _) ⟨W.heap.size,0,none⟩ 1 1 [.string (zh p),.iface 102 (.pointer (some ⟨n,0,none⟩)),.nilIface] rfl rfl (qf _ _ _ _ _) (by intro u F;simp at F;rcases F with rfl | rfl | rfl<;>rfl) (by unfold maxLen;omega) (by omega) (by simp;omega) ?_);intro T G i o _;have S:Hid (ZQ G B T (ys++[(p,.iface 102 (.pointer (some ⟨n,0,none⟩)),.nilIface)])):=ZQ.step i;have Q:Hid (CF B w G):=((uh C).trans (CF.of_below ((yI _ _).alloc (ye _) _) A)).trans (CF.grown (d.alloc _) o (by simp;omega));clear i o d C;go_wp2;go_ret;exact⟨_,[(p,.iface 102 (.pointer (some ⟨n,0,none⟩)),.nilIface)],rfl,uh S,GW (uh z).symm (by first | exact .inl rfl | exact .inr ⟨_,_,rfl⟩) (by first | exact .inl rfl | exact .inr ⟨_,_,rfl⟩) (uh HP0),uh Q⟩
  ·by_cases k6:kd a=6
   ·obtain⟨m,rfl⟩:∃ m,a= .obj m:=by cases a<;>first | exact⟨_,rfl⟩ |(simp[kd]at k6)
    obtain⟨f,Z⟩:∃ f,v1= .iface 173 (.pointer (some ⟨f,0,none⟩)):=by
     have D:zk w S1 (.obj m) v1:=h1;rw[zk]at D;obtain⟨ob,b,nn,xs,h,_⟩:=D;exact⟨ob,h⟩
    subst Z;have a1:=RY ⟨f,0,none⟩;have a2:=F2 ⟨f,0,none⟩;have a3:=BO;clear k5 k6;have E:(w.alloc (.cells #[.string (zh p),.iface 173 (.pointer (some ⟨f,0,none⟩)),.nilIface] 63)).heap.size=w.heap.size+1:=by simp
    have k0:(w.alloc (.cells #[.string (zh p),.iface 173 (.pointer (some ⟨f,0,none⟩)),.nilIface] 63)).cell? ⟨w.heap.size,0,none⟩=some (.string (zh p)):=qf w 63 (.string (zh p)) (.iface 173 (.pointer (some ⟨f,0,none⟩))) (.nilIface) 0 _ rfl;have k1:(w.alloc (.cells #[.string (zh p),.iface 173 (.pointer (some ⟨f,0,none⟩)),.nilIface] 63)).cell? ⟨w.heap.size,1,none⟩=some (.iface 173 (.pointer (some ⟨f,0,none⟩))):=qf w 63 (.string (zh p)) (.iface 173 (.pointer (some ⟨f,0,none⟩))) (.nilIface) 1 _ rfl;have k2:(w.alloc (.cells #[.string (zh p),.iface 173 (.pointer (some ⟨f,0,none⟩)),.nilIface] 63)).cell? ⟨w.heap.size,2,none⟩=some (.nilIface):=qf w 63 (.string (zh p)) (.iface 173 (.pointer (some ⟨f,0,none⟩))) (.nilIface) 2 _ rfl;have d:(w.alloc (.cells #[.string (zh p),.iface 173 (.pointer (some ⟨f,0,none⟩)),.nilIface] 63)).ownsRow B 63 3 lv ys.length (ys.flatMap QZ):=Zd hr ((yI _ _).alloc (ye _) _);have C:Hid (CF B w (w.alloc (.cells #[.string (zh p),.iface 173 (.pointer (some ⟨f,0,none⟩)),.nilIface] 63))):=CF.of_below ((yI _ _).alloc (ye _) _) htw.size;have g:=Va htw.apart (h1.keep (w':=w.alloc (.cells #[.string (zh p),.iface 173 (.pointer (some ⟨f,0,none⟩)),.nilIface] 63)) (S':=S1) (fun k hk=>Below.heap_alloc _ _ k (by have:=htw.lt1 k hk;have:=htw.size;omega)) (fun _ h=>h)) (h2.keep (w':=w.alloc (.cells #[.string (zh p),.iface 173 (.pointer (some ⟨f,0,none⟩)),.nilIface] 63)) (S':=S2) (fun k hk=>Below.heap_alloc _ _ k (by have:=htw.lt2 k hk;have:=htw.size;omega)) (fun _ h=>h)) hnn;have I:=htw.size;rw[O]at g;have J:=g;clear g;have z:=ze q;clear q hr h1 h2 htw hnn ga gb O;go_in;have A:B<=(w.alloc (.cells #[.string (zh p),.iface 173 (.pointer (some ⟨f,0,none⟩)),.nilIface] 63)).heap.size:=by omega
    go_wp2_with (at_builtin;refine wpList_append_own _ rfl (.tmp 64) (.tmp 66) 55 rfl B 63 i0 (.agg #[.string ByteArray.empty,.nilIface,.nilIface]) 3 48 underlying55 K L M N rfl (by decide) _ _ _ rfl (d.alloc _) ⟨w.heap.size+1,0,none⟩ 1 1 [.string (zh p),.iface 173 (.pointer (some ⟨f,0,none⟩)),.nilIface] rfl rfl (Xd _ _ _ _ _ _) (by intro u F;simp at F;rcases F with rfl | rfl | rfl<;>rfl) (by unfold maxLen;omega) (by omega) (by simp;omega) ?_);intro T G i o _;have S:Hid (ZQ G B T (ys++[(p,.iface 173 (.pointer (some ⟨f,0,none⟩)),.nilIface)])):=ZQ.step i;have Q:Hid (CF B w G):=((uh C).trans (CF.of_below ((yI _ _).alloc (ye _) _) A)).trans (CF.grown (d.alloc _) o (by simp;omega));clear i o d C;go_wp2;go_ret;exact⟨_,[(p,.iface 173 (.pointer (some ⟨f,0,none⟩)),.nilIface)],rfl,uh S,GW (uh z).symm (by first | exact .inl rfl | exact .inr ⟨_,_,rfl⟩) (by first | exact .inl rfl | exact .inr ⟨_,_,rfl⟩) (uh HP0),uh Q⟩
   ·have a1:=F0 (show zk w S1 a v1 from h1) k5;have a2:=F1 (show zk w S1 a v1 from h1) k6;obtain⟨x,s,rfl⟩:=Qe (show zk w S1 a v1 from h1);clear k5 k6;have E:(w.alloc (.cells #[.string (zh p),.iface x s,.nilIface] 63)).heap.size=w.heap.size+1:=by simp
    have k0:(w.alloc (.cells #[.string (zh p),.iface x s,.nilIface] 63)).cell? ⟨w.heap.size,0,none⟩=some (.string (zh p)):=qf w 63 (.string (zh p)) (.iface x s) (.nilIface) 0 _ rfl;have k1:(w.alloc (.cells #[.string (zh p),.iface x s,.nilIface] 63)).cell? ⟨w.heap.size,1,none⟩=some (.iface x s):=qf w 63 (.string (zh p)) (.iface x s) (.nilIface) 1 _ rfl;have k2:(w.alloc (.cells #[.string (zh p),.iface x s,.nilIface] 63)).cell? ⟨w.heap.size,2,none⟩=some (.nilIface):=qf w 63 (.string (zh p)) (.iface x s) (.nilIface) 2 _ rfl;have d:(w.alloc (.cells #[.string (zh p),.iface x s,.nilIface] 63)).ownsRow B 63 3 lv ys.length (ys.flatMap QZ):=Zd hr ((yI _ _).alloc (ye _) _);have C:Hid (CF B w (w.alloc (.cells #[.string (zh p),.iface x s,.nilIface] 63))):=CF.of_below ((yI _ _).alloc (ye _) _) htw.size;have g:=Va htw.apart (h1.keep (w':=w.alloc (.cells #[.string (zh p),.iface x s,.nilIface] 63)) (S':=S1) (fun k hk=>Below.heap_alloc _ _ k (by have:=htw.lt1 k hk;have:=htw.size;omega)) (fun _ h=>h)) (h2.keep (w':=w.alloc (.cells #[.string (zh p),.iface x s,.nilIface] 63)) (S':=S2) (fun k hk=>Below.heap_alloc _ _ k (by have:=htw.lt2 k hk;have:=htw.size;omega)) (fun _ h=>h)) hnn;have I:=htw.size;rw[O]at g;have J:=g;clear g;have z:=ze q;clear q hr h1 h2 htw hnn ga gb O;go_in;have A:B<=(w.alloc (.cells #[.string (zh p),.iface x s,.nilIface] 63)).heap.size:=by omega
    go_wp2_with (at_builtin;refine wpList_append_own _ rfl (.tmp 64) (.tmp 66) 55 rfl B 63 i0 (.agg #[.string ByteArray.empty,.nilIface,.nilIface]) 3 48 underlying55 K L M N rfl (by decide) _ _ _ rfl (d.alloc _) ⟨w.heap.size+1,0,none⟩ 1 1 [.string (zh p),.iface x s,.nilIface] rfl rfl (Xd _ _ _ _ _ _) (by intro u F;simp at F;rcases F with rfl | rfl | rfl<;>rfl) (by unfold maxLen;omega) (by omega) (by simp;omega) ?_);intro T G i o _;have S:Hid (ZQ G B T (ys++[(p,.iface x s,.nilIface)])):=ZQ.step i;have Q:Hid (CF B w G):=((uh C).trans (CF.of_below ((yI _ _).alloc (ye _) _) A)).trans (CF.grown (d.alloc _) o (by simp;omega));clear i o d C;go_wp2;go_ret;exact⟨_,[(p,.iface x s,.nilIface)],rfl,uh S,GW (uh z).symm (by first | exact .inl rfl | exact .inr ⟨_,_,rfl⟩) (by first | exact .inl rfl | exact .inr ⟨_,_,rfl⟩) (uh HP0),uh Q⟩
theorem zdB{a b:JV}(h:qC a b=true):(∃ l m,a= .arr l/\b= .arr m/\l.toL.length=m.toL.length)∨∃ l m,a= .obj l/\b= .obj m:=by
 cases a<;>cases b<;>first | exact .inr ⟨_,_,rfl,rfl⟩ |(simp[qC]at h;done) | skip
 rename_i l m;exact .inl ⟨l,m,rfl,rfl,by simpa [qC]using h⟩
theorem zdC (n:Nat) (hI:∀ a b:JV,kd a=5->qC a b=true->zD a->zD b->zw a=false->zw b=false->zm a<=n+1->zm b<=n+1->(ct a).length<=1000000->(ct b).length<=1000000->HC 162 n a b)
  (hM:∀ a b:JV,kd a=6->qC a b=true->zD a->zD b->zw a=false->zw b=false->zm a<=n+1->zm b<=n+1->(ct a).length<=1000000->(ct b).length<=1000000->HC 163 n a b):AC (n+1):=by
 intro P oa ob p N lv v1 v2 w B E J ga gb C hl hcn hr T U d hpw;have HP0:=ze (hpw.here T U);have HPW:=ze hpw;clear hpw;obtain⟨i0,hi0,hz0,hz1,hz2⟩:=info_parts BK;by_cases Y:oa=none∨ob=none
 ·have e:WV (n+1) p oa ob=[p]:=by
   rcases Y with rfl | rfl
   ·rfl
   ·cases oa<;>rfl
  rw[e];exact zdA P oa ob p N lv v1 v2 w B E J C Y hl (by omega) hr T U d HP0
 ·cases oa with
  | none=>exact absurd (.inl rfl) Y
  | some a=>
   cases ob with
   | none=>exact absurd (.inr rfl) Y
   | some b=>
    obtain⟨oka,twa,da,la,lpa⟩:=ga;obtain⟨okb,twb,db,lb,lpb⟩:=gb;simp only[Qv]at hcn;have v:zk w E a v1:=T;have x:zk w J b v2:=U;have hy:N.length<=1000000:=by omega
    have eR:WV (n+1) p (some a) (some b)=qS (n+1) p a b:=rfl;rw[eR];clear Y eR;by_cases hc:qC a b=true
    ·rw[F8 hc];rcases zdB hc with ⟨l,m,rfl,rfl,hlen⟩ |⟨l,m,rfl,rfl⟩
     ·have HH:=ze (hI _ _ rfl hc oka okb twa twb da db la lb);obtain⟨g,Z,y,e1,s1,g1,r1,rl1⟩:=(by have:=v;rwa [zk]at this:∃ g Z y,v1= .iface 102 (.pointer (some ⟨g,0,none⟩))/\E g/\w.heap[g]?=some (.cells #[Z] 105 (0,0))/\Yu w E Z y/\Zi w E l y);obtain⟨f,sv2,aa,e2,s2,g2,r2,rl2⟩:=(by have:=x;rwa [zk]at this:∃ g Z y,v2= .iface 102 (.pointer (some ⟨g,0,none⟩))/\J g/\w.heap[g]?=some (.cells #[Z] 105 (0,0))/\Yu w J Z y/\Zi w J m y);obtain⟨x1,_,c1,rfl,_,_⟩:=J1 r1;obtain⟨x2,_,c2,rfl,_,_⟩:=J1 r2;have n1:=(QY l y rl1).1;have n2:=(QY m aa rl2).1;subst e1;subst e2;have a1:=UT ⟨g,0,none⟩;have a2:=UT ⟨f,0,none⟩;have S:g<w.heap.size:=by have:=d.lt1 _ s1;have:=d.size;omega
      have F:f<w.heap.size:=by have:=d.lt2 _ s2;have:=d.size;omega
      have y1:(w.alloc (.cells #[.string (zh p),.iface 102 (.pointer (some ⟨g,0,none⟩)),.iface 102 (.pointer (some ⟨f,0,none⟩))] 63)).cell? ⟨g,0,none⟩=some (.slice x1 y.length c1):=by
       rw[((yI w.heap.size w).alloc (ye _) _).cell (p:=⟨g,0,none⟩) S,yG g1];rfl
      have y2:(w.alloc (.cells #[.string (zh p),.iface 102 (.pointer (some ⟨g,0,none⟩)),.iface 102 (.pointer (some ⟨f,0,none⟩))] 63)).cell? ⟨f,0,none⟩=some (.slice x2 aa.length c2):=by
       rw[((yI w.heap.size w).alloc (ye _) _).cell (p:=⟨f,0,none⟩) F,yG g2];rfl
      have k0:(w.alloc (.cells #[.string (zh p),.iface 102 (.pointer (some ⟨g,0,none⟩)),.iface 102 (.pointer (some ⟨f,0,none⟩))] 63)).cell? ⟨w.heap.size,0,none⟩=some (.string (zh p)):=qf w 63 (.string (zh p)) (.iface 102 (.pointer (some ⟨g,0,none⟩))) (.iface 102 (.pointer (some ⟨f,0,none⟩))) 0 _ rfl;have k1:(w.alloc (.cells #[.string (zh p),.iface 102 (.pointer (some ⟨g,0,none⟩)),.iface 102 (.pointer (some ⟨f,0,none⟩))] 63)).cell? ⟨w.heap.size,1,none⟩=some (.iface 102 (.pointer (some ⟨g,0,none⟩))):=qf w 63 (.string (zh p)) (.iface 102 (.pointer (some ⟨g,0,none⟩))) (.iface 102 (.pointer (some ⟨f,0,none⟩))) 1 _ rfl;have k2:(w.alloc (.cells #[.string (zh p),.iface 102 (.pointer (some ⟨g,0,none⟩)),.iface 102 (.pointer (some ⟨f,0,none⟩))] 63)).cell? ⟨w.heap.size,2,none⟩=some (.iface 102 (.pointer (some ⟨f,0,none⟩))):=qf w 63 (.string (zh p)) (.iface 102 (.pointer (some ⟨g,0,none⟩))) (.iface 102 (.pointer (some ⟨f,0,none⟩))) 2 _ rfl;have M:Bw w (w.alloc (.cells #[.string (zh p),.iface 102 (.pointer (some ⟨g,0,none⟩)),.iface 102 (.pointer (some ⟨f,0,none⟩))] 63)):=(yI _ _).alloc (ye _) _;have tl:((y.length:Int) ==(aa.length:Int))=true:=by rw[yD];omega
      have HIT:Hid (∀ W:Wo,Bw w W->Calls prog 162 #[lv,.string (zh p),.pointer (some ⟨g,0,none⟩),.pointer (some ⟨f,0,none⟩)] W fun e w'=>∃ (r:Value) (zs:List ZJ),e= .returned r/\ZQ w' B r (N++zs)/\ZM P zs ((Zc (.arr l) (.arr m)).flatMap (qT n p (.arr l) (.arr m)))/\CF B W w'):=fun W hW=>
       (uh HH) P p N lv _ _ _ _ W B E J lpa lpb (by omega) (Zd hr hW) (zk.keep (fun k hk=>hW.block k (by have:=d.lt1 k hk;have:=d.size;omega)) (fun _ h=>h) _ _ v) (zk.keep (fun k hk=>hW.block k (by have:=d.lt2 k hk;have:=d.size;omega)) (fun _ h=>h) _ _ x) (d.next (hW.mono d.size)) ((uh HPW).back (fun k hk=>hW.block k (by have:=d.lt1 k hk;have:=d.size;omega)) (fun k hk=>hW.block k (by have:=d.lt2 k hk;have:=d.size;omega)))
      have HB:=ze M;have K:=d.size;have H:=FU d.apart (zk.keep (S':=E) (fun k hk=>M.block k (by have:=d.lt1 k hk;have:=d.size;omega)) (fun _ h=>h) _ _ v) (zk.keep (S':=J) (fun k hk=>M.block k (by have:=d.lt2 k hk;have:=d.size;omega)) (fun _ h=>h) _ _ x);rw[show Qo (.arr l) (.arr m)=false from rfl]at H;clear HH hI hM lpa lpb la lb da db twa twb oka okb hc v x T U d hr r1 r2 rl1 rl2 g1 g2 M C n1 n2 hlen s1 s2;generalize (Zc (.arr l) (.arr m)).flatMap (qT n p (.arr l) (.arr m))=R at *;go_in;go_wp2_with fail;go_quiet (fail);have BX:Hid (Bw w ((w.alloc (.cells #[.string (zh p),.iface 102 (.pointer (some ⟨g,0,none⟩)),.iface 102 (.pointer (some ⟨f,0,none⟩))] 63)).drewN nq)):=YQ (uh HB) _;have HI2:=ze (uh HIT _ (uh BX));have q0:((w.alloc (.cells #[.string (zh p),.iface 102 (.pointer (some ⟨g,0,none⟩)),.iface 102 (.pointer (some ⟨f,0,none⟩))] 63)).drewN nq).cell? ⟨w.heap.size,0,none⟩=some (.string (zh p)):=k0;clear k0 k1 k2 HB HIT y1 y2;generalize (w.alloc (.cells #[.string (zh p),.iface 102 (.pointer (some ⟨g,0,none⟩)),.iface 102 (.pointer (some ⟨f,0,none⟩))] 63)).drewN nq=W at *;go_wp2_with fail;refine (uh HI2).mono ?_;rintro e w3 ⟨r3,zs,rfl,o3,z3,f3⟩;have O3:=ze o3;have Z3:=ze z3;have F3:=ze ((CF.of_below (uh BX) K).trans f3);clear HI2 o3 z3 f3;go_wp2;go_ret;exact⟨_,zs,rfl,uh O3,uh Z3,uh F3⟩
     ·have HH:=ze (hM _ _ rfl hc oka okb twa twb da db la lb);obtain⟨o,mb1,nn1,y,e1,s1,_⟩:=(by have:=v;rwa [zk]at this:∃ ob b nn y,v1= .iface 173 (.pointer (some ⟨ob,0,none⟩))/\E ob/\E b/\w.heap[ob]?=some (.cells #[.map (some b)] 175 (0,0))/\w.ownsMap prog 9 RH b nn (zZ y)/\nn<=y.length/\Zt w E l y);obtain⟨L,mb2,nn2,aa,e2,s2,_⟩:=(by have:=x;rwa [zk]at this:∃ ob b nn y,v2= .iface 173 (.pointer (some ⟨ob,0,none⟩))/\J ob/\J b/\w.heap[ob]?=some (.cells #[.map (some b)] 175 (0,0))/\w.ownsMap prog 9 RH b nn (zZ y)/\nn<=y.length/\Zt w J m y);subst e1;subst e2;have a1:=RY ⟨o,0,none⟩;have a2:=F2 ⟨o,0,none⟩;have a3:=F2 ⟨L,0,none⟩;have k0:(w.alloc (.cells #[.string (zh p),.iface 173 (.pointer (some ⟨o,0,none⟩)),.iface 173 (.pointer (some ⟨L,0,none⟩))] 63)).cell? ⟨w.heap.size,0,none⟩=some (.string (zh p)):=qf w 63 (.string (zh p)) (.iface 173 (.pointer (some ⟨o,0,none⟩))) (.iface 173 (.pointer (some ⟨L,0,none⟩))) 0 _ rfl;have k1:(w.alloc (.cells #[.string (zh p),.iface 173 (.pointer (some ⟨o,0,none⟩)),.iface 173 (.pointer (some ⟨L,0,none⟩))] 63)).cell? ⟨w.heap.size,1,none⟩=some (.iface 173 (.pointer (some ⟨o,0,none⟩))):=qf w 63 (.string (zh p)) (.iface 173 (.pointer (some ⟨o,0,none⟩))) (.iface 173 (.pointer (some ⟨L,0,none⟩))) 1 _ rfl;have k2:(w.alloc (.cells #[.string (zh p),.iface 173 (.pointer (some ⟨o,0,none⟩)),.iface 173 (.pointer (some ⟨L,0,none⟩))] 63)).cell? ⟨w.heap.size,2,none⟩=some (.iface 173 (.pointer (some ⟨L,0,none⟩))):=qf w 63 (.string (zh p)) (.iface 173 (.pointer (some ⟨o,0,none⟩))) (.iface 173 (.pointer (some ⟨L,0,none⟩))) 2 _ rfl;have M:Bw w (w.alloc (.cells #[.string (zh p),.iface 173 (.pointer (some ⟨o,0,none⟩)),.iface 173 (.pointer (some ⟨L,0,none⟩))] 63)):=(yI _ _).alloc (ye _) _;have HIT:Hid (∀ W:Wo,Bw w W->Calls prog 163 #[lv,.string (zh p),.pointer (some ⟨o,0,none⟩),.pointer (some ⟨L,0,none⟩)] W fun e w'=>∃ (r:Value) (zs:List ZJ),e= .returned r/\ZQ w' B r (N++zs)/\ZM P zs ((Zc (.obj l) (.obj m)).flatMap (qT n p (.obj l) (.obj m)))/\CF B W w'):=fun W hW=>
       (uh HH) P p N lv _ _ _ _ W B E J lpa lpb (by omega) (Zd hr hW) (zk.keep (fun k hk=>hW.block k (by have:=d.lt1 k hk;have:=d.size;omega)) (fun _ h=>h) _ _ v) (zk.keep (fun k hk=>hW.block k (by have:=d.lt2 k hk;have:=d.size;omega)) (fun _ h=>h) _ _ x) (d.next (hW.mono d.size)) ((uh HPW).back (fun k hk=>hW.block k (by have:=d.lt1 k hk;have:=d.size;omega)) (fun k hk=>hW.block k (by have:=d.lt2 k hk;have:=d.size;omega)))
      have HI2:=ze (uh HIT _ M);have BX:=ze M;have K:=d.size;have H:=FU d.apart (zk.keep (S':=E) (fun k hk=>M.block k (by have:=d.lt1 k hk;have:=d.size;omega)) (fun _ h=>h) _ _ v) (zk.keep (S':=J) (fun k hk=>M.block k (by have:=d.lt2 k hk;have:=d.size;omega)) (fun _ h=>h) _ _ x);rw[show Qo (.obj l) (.obj m)=false from rfl]at H;clear HIT HH hI hM lpa lpb la lb da db twa twb oka okb hc v x T U d hr M C s1 s2;generalize (Zc (.obj l) (.obj m)).flatMap (qT n p (.obj l) (.obj m))=R at *;go_in;go_wp2_with fail;refine (uh HI2).mono ?_;rintro e w3 ⟨r3,zs,rfl,o3,z3,f3⟩;have O3:=ze o3;have Z3:=ze z3;have F3:=ze ((CF.of_below (uh BX) K).trans f3);clear HI2 o3 z3 f3;go_wp2;go_ret;exact⟨_,zs,rfl,uh O3,uh Z3,uh F3⟩
    ·have hc':qC a b=false:=by simpa using hc
     by_cases X:Qo a b=true
     ·have he:FT (some a) (some b)=true:=X;have G:qS (n+1) p a b=[]:=by rw[qS,yf hc,yg X]
      have k5:kd a≠5:=by intro h;cases a<;>simp[kd,Qo]at h X
      have k6:kd a≠6:=by intro h;cases a<;>simp[kd,Qo]at h X
      generalize qS (n+1) p a b=R at *;clear hI hM lpa lpb la lb da db twa twb oka okb hc hc' X;have a1:=F0 v k5;have a2:=F1 v k6;obtain⟨D,q1,rfl⟩:=Qe v;obtain⟨i,q2,rfl⟩:=Qe x;have V:(w.alloc (.cells #[.string (zh p),.iface D q1,.iface i q2] 63)).heap.size=w.heap.size+1:=by simp
      have k0:(w.alloc (.cells #[.string (zh p),.iface D q1,.iface i q2] 63)).cell? ⟨w.heap.size,0,none⟩=some (.string (zh p)):=qf w 63 (.string (zh p)) (.iface D q1) (.iface i q2) 0 _ rfl;have k1:(w.alloc (.cells #[.string (zh p),.iface D q1,.iface i q2] 63)).cell? ⟨w.heap.size,1,none⟩=some (.iface D q1):=qf w 63 (.string (zh p)) (.iface D q1) (.iface i q2) 1 _ rfl;have k2:(w.alloc (.cells #[.string (zh p),.iface D q1,.iface i q2] 63)).cell? ⟨w.heap.size,2,none⟩=some (.iface i q2):=qf w 63 (.string (zh p)) (.iface D q1) (.iface i q2) 2 _ rfl;have q:(w.alloc (.cells #[.string (zh p),.iface D q1,.iface i q2] 63)).ownsRow B 63 3 lv N.length (N.flatMap QZ):=Zd hr ((yI _ _).alloc (ye _) _);have FW:Hid (CF B w (w.alloc (.cells #[.string (zh p),.iface D q1,.iface i q2] 63))):=CF.of_below ((yI _ _).alloc (ye _) _) d.size;have z:=Va d.apart (T.keep (w':=w.alloc (.cells #[.string (zh p),.iface D q1,.iface i q2] 63)) (S':=E) (fun k hk=>Below.heap_alloc _ _ k (by have:=d.lt1 k hk;have:=d.size;omega)) (fun _ h=>h)) (U.keep (w':=w.alloc (.cells #[.string (zh p),.iface D q1,.iface i q2] 63)) (S':=J) (fun k hk=>Below.heap_alloc _ _ k (by have:=d.lt2 k hk;have:=d.size;omega)) (fun _ h=>h)) C;have K:=d.size;rw[he]at z;have heq:=z;have O:=ze G;have OW:=ze q;clear z G hr T U v x d C he q k5 k6;go_in;go_wp2;go_ret;exact⟨_,[],rfl,by rw[yT];exact uh OW,RW (uh O).symm,uh FW⟩
     ·have he:FT (some a) (some b)=false:=by show Qo a b=false;simpa using X
      have G:qS (n+1) p a b=[p]:=by rw[qS,yf hc,yf X]
      have ga:=hl;have gb:=hl;generalize qS (n+1) p a b=R at *;clear hI hM lpa lpb la lb da db twa twb oka okb hc X;by_cases k5:kd a=5
      ·obtain⟨l,rfl⟩:∃ l,a= .arr l:=by cases a<;>first | exact⟨_,rfl⟩ |(simp[kd]at k5)
       by_cases j5:kd b=5
       ·obtain⟨m,rfl⟩:∃ m,b= .arr m:=by cases b<;>first | exact⟨_,rfl⟩ |(simp[kd]at j5)
        obtain⟨g,Z,y,e1,s1,g1,r1,rl1⟩:=(by have:=v;rwa [zk]at this:∃ g Z y,v1= .iface 102 (.pointer (some ⟨g,0,none⟩))/\E g/\w.heap[g]?=some (.cells #[Z] 105 (0,0))/\Yu w E Z y/\Zi w E l y);obtain⟨f,sv2,aa,e2,s2,g2,r2,rl2⟩:=(by have:=x;rwa [zk]at this:∃ g Z y,v2= .iface 102 (.pointer (some ⟨g,0,none⟩))/\J g/\w.heap[g]?=some (.cells #[Z] 105 (0,0))/\Yu w J Z y/\Zi w J m y);obtain⟨x1,_,c1,rfl,_,_⟩:=J1 r1;obtain⟨x2,_,c2,rfl,_,_⟩:=J1 r2;have n1:=(QY l y rl1).1;have n2:=(QY m aa rl2).1;subst e1;subst e2;have a1:=UT ⟨g,0,none⟩;have a2:=UT ⟨f,0,none⟩;have S:g<w.heap.size:=by have:=d.lt1 _ s1;have:=d.size;omega
        have F:f<w.heap.size:=by have:=d.lt2 _ s2;have:=d.size;omega
        have y1:(w.alloc (.cells #[.string (zh p),.iface 102 (.pointer (some ⟨g,0,none⟩)),.iface 102 (.pointer (some ⟨f,0,none⟩))] 63)).cell? ⟨g,0,none⟩=some (.slice x1 y.length c1):=by
         rw[((yI w.heap.size w).alloc (ye _) _).cell (p:=⟨g,0,none⟩) S,yG g1];rfl
        have y2:(w.alloc (.cells #[.string (zh p),.iface 102 (.pointer (some ⟨g,0,none⟩)),.iface 102 (.pointer (some ⟨f,0,none⟩))] 63)).cell? ⟨f,0,none⟩=some (.slice x2 aa.length c2):=by
         rw[((yI w.heap.size w).alloc (ye _) _).cell (p:=⟨f,0,none⟩) F,yG g2];rfl
        have hll:l.toL.length≠m.toL.length:=by simpa [qC]using hc'
        have tl:((y.length:Int) ==(aa.length:Int))=false:=by rw[yd];omega
        clear r1 r2 rl1 rl2 g1 g2 n1 n2 s1 s2 hc' k5 j5 hll v x S F;have V:(w.alloc (.cells #[.string (zh p),.iface 102 (.pointer (some ⟨g,0,none⟩)),.iface 102 (.pointer (some ⟨f,0,none⟩))] 63)).heap.size=w.heap.size+1:=by simp
        have k0:(w.alloc (.cells #[.string (zh p),.iface 102 (.pointer (some ⟨g,0,none⟩)),.iface 102 (.pointer (some ⟨f,0,none⟩))] 63)).cell? ⟨w.heap.size,0,none⟩=some (.string (zh p)):=qf w 63 (.string (zh p)) (.iface 102 (.pointer (some ⟨g,0,none⟩))) (.iface 102 (.pointer (some ⟨f,0,none⟩))) 0 _ rfl;have k1:(w.alloc (.cells #[.string (zh p),.iface 102 (.pointer (some ⟨g,0,none⟩)),.iface 102 (.pointer (some ⟨f,0,none⟩))] 63)).cell? ⟨w.heap.size,1,none⟩=some (.iface 102 (.pointer (some ⟨g,0,none⟩))):=qf w 63 (.string (zh p)) (.iface 102 (.pointer (some ⟨g,0,none⟩))) (.iface 102 (.pointer (some ⟨f,0,none⟩))) 1 _ rfl;have k2:(w.alloc (.cells #[.string (zh p),.iface 102 (.pointer (some ⟨g,0,none⟩)),.iface 102 (.pointer (some ⟨f,0,none⟩))] 63)).cell? ⟨w.heap.size,2,none⟩=some (.iface 102 (.pointer (some ⟨f,0,none⟩))):=qf w 63 (.string (zh p)) (.iface 102 (.pointer (some ⟨g,0,none⟩))) (.iface 102 (.pointer (some ⟨f,0,none⟩))) 2 _ rfl;have M:Bw w (w.alloc (.cells #[.string (zh p),.iface 102 (.pointer (some ⟨g,0,none⟩)),.iface 102 (.pointer (some ⟨f,0,none⟩))] 63)):=(yI _ _).alloc (ye _) _;have HB:=ze M;have Q:=ze d;have HR1:=ze T;have HR2:=ze U;have HNN:=ze C;have O:=ze G;have HE:=ze he;have HR:=ze hr;have K:=d.size;have H:=Va d.apart (T.keep (S':=E) (fun k hk=>M.block k (by have:=d.lt1 k hk;have:=d.size;omega)) (fun _ h=>h)) (U.keep (S':=J) (fun k hk=>M.block k (by have:=d.lt2 k hk;have:=d.size;omega)) (fun _ h=>h)) C;rw[he]at H;clear M G hr T U d C ga gb he;go_in;go_wp2_with fail;go_quiet (fail);have BX:Hid (Bw w ((w.alloc (.cells #[.string (zh p),.iface 102 (.pointer (some ⟨g,0,none⟩)),.iface 102 (.pointer (some ⟨f,0,none⟩))] 63)).drewN nq)):=YQ (uh HB) _;have hXW:((w.alloc (.cells #[.string (zh p),.iface 102 (.pointer (some ⟨g,0,none⟩)),.iface 102 (.pointer (some ⟨f,0,none⟩))] 63)).drewN nq).heap.size=w.heap.size+1:=V;have q0:((w.alloc (.cells #[.string (zh p),.iface 102 (.pointer (some ⟨g,0,none⟩)),.iface 102 (.pointer (some ⟨f,0,none⟩))] 63)).drewN nq).cell? ⟨w.heap.size,0,none⟩=some (.string (zh p)):=k0;have q1:((w.alloc (.cells #[.string (zh p),.iface 102 (.pointer (some ⟨g,0,none⟩)),.iface 102 (.pointer (some ⟨f,0,none⟩))] 63)).drewN nq).cell? ⟨w.heap.size,1,none⟩=some (.iface 102 (.pointer (some ⟨g,0,none⟩))):=k1;have q2:((w.alloc (.cells #[.string (zh p),.iface 102 (.pointer (some ⟨g,0,none⟩)),.iface 102 (.pointer (some ⟨f,0,none⟩))] 63)).drewN nq).cell? ⟨w.heap.size,2,none⟩=some (.iface 102 (.pointer (some ⟨f,0,none⟩))):=k2;clear k0 k1 k2 HB V y1 y2;generalize (w.alloc (.cells #[.string (zh p),.iface 102 (.pointer (some ⟨g,0,none⟩)),.iface 102 (.pointer (some ⟨f,0,none⟩))] 63)).drewN nq=W at *;have q3:∀ j u,[Value.string (zh p),.iface 102 (.pointer (some ⟨g,0,none⟩)),.iface 102 (.pointer (some ⟨f,0,none⟩))][j]?=some u->W.cell? ⟨w.heap.size,j,none⟩=some u:=fun j u h=>by
         match j with
         | 0=>simp at h;subst h;exact q0
         | 1=>simp at h;subst h;exact q1
         | 2=>simp at h;subst h;exact q2
         | j+3=>simp at h
        have hWB:B<=W.heap.size:=by omega
        have heq:=Va (uh Q).apart ((uh HR1).keep (w':=W) (S':=E) (fun k hk=>(uh BX).block k (by have:=(uh Q).lt1 k hk;omega)) (fun _ h=>h)) ((uh HR2).keep (w':=W) (S':=J) (fun k hk=>(uh BX).block k (by have:=(uh Q).lt2 k hk;omega)) (fun _ h=>h)) (uh HNN);rw[uh HE]at heq;have q:W.ownsRow B 63 3 lv N.length (N.flatMap QZ):=Zd (uh HR) (uh BX);have FW:Hid (CF B w W):=CF.of_below (uh BX) K;clear Q HR1 HR2 HNN HE HR BX q3 hXW;go_wp2_with (at_builtin;refine wpList_append_own _ rfl (.tmp 64) (.tmp 66) 55 rfl B 63 i0 (.agg #[.string ByteArray.empty,.nilIface,.nilIface]) 3 48 underlying55 hi0 hz0 hz1 hz2 rfl (by decide) _ _ _ rfl (q.alloc _) ⟨W.heap.size,0,none⟩ 1 1 [.string (zh p),.iface 102 (.pointer (some ⟨g,0,none⟩)),.iface 102 (.pointer (some ⟨f,0,none⟩))] rfl rfl (qf _ _ _ _ _) (by intro u hu;simp at hu;rcases hu with rfl | rfl | rfl<;>rfl) (by unfold maxLen;omega) (by omega) (by simp;omega) ?_);intro v3 w3 A I _;have R3:Hid (ZQ w3 B v3 (N++[(p,.iface 102 (.pointer (some ⟨g,0,none⟩)),.iface 102 (.pointer (some ⟨f,0,none⟩)))])):=ZQ.step A;have F3:Hid (CF B w w3):=((uh FW).trans (CF.of_below ((yI _ _).alloc (ye _) _) hWB)).trans (CF.grown (q.alloc _) I (by simp;omega));clear A I q FW;go_wp2;go_ret;exact⟨_,[(p,.iface 102 (.pointer (some ⟨g,0,none⟩)),.iface 102 (.pointer (some ⟨f,0,none⟩)))],rfl,uh R3,GW (uh O).symm (by first | exact .inl rfl | exact .inr ⟨_,_,rfl⟩) (by first | exact .inl rfl | exact .inr ⟨_,_,rfl⟩) (uh HP0),uh F3⟩
       ·obtain⟨g,Z,y,e1,_⟩:=(by have:=v;rwa [zk]at this:∃ g Z y,v1= .iface 102 (.pointer (some ⟨g,0,none⟩))/\E g/\w.heap[g]?=some (.cells #[Z] 105 (0,0))/\Yu w E Z y/\Zi w E l y);subst e1;have a1:=UT ⟨g,0,none⟩;have a2:=F0 x j5;obtain⟨i,s,rfl⟩:=Qe x;clear k5 j5 hc' v x;have V:(w.alloc (.cells #[.string (zh p),.iface 102 (.pointer (some ⟨g,0,none⟩)),.iface i s] 63)).heap.size=w.heap.size+1:=by simp
        have k0:(w.alloc (.cells #[.string (zh p),.iface 102 (.pointer (some ⟨g,0,none⟩)),.iface i s] 63)).cell? ⟨w.heap.size,0,none⟩=some (.string (zh p)):=qf w 63 (.string (zh p)) (.iface 102 (.pointer (some ⟨g,0,none⟩))) (.iface i s) 0 _ rfl;have k1:(w.alloc (.cells #[.string (zh p),.iface 102 (.pointer (some ⟨g,0,none⟩)),.iface i s] 63)).cell? ⟨w.heap.size,1,none⟩=some (.iface 102 (.pointer (some ⟨g,0,none⟩))):=qf w 63 (.string (zh p)) (.iface 102 (.pointer (some ⟨g,0,none⟩))) (.iface i s) 1 _ rfl;have k2:(w.alloc (.cells #[.string (zh p),.iface 102 (.pointer (some ⟨g,0,none⟩)),.iface i s] 63)).cell? ⟨w.heap.size,2,none⟩=some (.iface i s):=qf w 63 (.string (zh p)) (.iface 102 (.pointer (some ⟨g,0,none⟩))) (.iface i s) 2 _ rfl;have M:Bw w (w.alloc (.cells #[.string (zh p),.iface 102 (.pointer (some ⟨g,0,none⟩)),.iface i s] 63)):=(yI _ _).alloc (ye _) _;have HB:=ze M;have Q:=ze d;have HR1:=ze T;have HR2:=ze U;have HNN:=ze C;have O:=ze G;have HE:=ze he;have HR:=ze hr;have K:=d.size;have H:=Va d.apart (T.keep (S':=E) (fun k hk=>M.block k (by have:=d.lt1 k hk;have:=d.size;omega)) (fun _ h=>h)) (U.keep (S':=J) (fun k hk=>M.block k (by have:=d.lt2 k hk;have:=d.size;omega)) (fun _ h=>h)) C;rw[he]at H;clear M G hr T U d C ga gb he;go_in;go_wp2_with fail;go_quiet (fail);have BX:Hid (Bw w ((w.alloc (.cells #[.string (zh p),.iface 102 (.pointer (some ⟨g,0,none⟩)),.iface i s] 63)).drewN nq)):=YQ (uh HB) _;have hXW:((w.alloc (.cells #[.string (zh p),.iface 102 (.pointer (some ⟨g,0,none⟩)),.iface i s] 63)).drewN nq).heap.size=w.heap.size+1:=V;have q0:((w.alloc (.cells #[.string (zh p),.iface 102 (.pointer (some ⟨g,0,none⟩)),.iface i s] 63)).drewN nq).cell? ⟨w.heap.size,0,none⟩=some (.string (zh p)):=k0;have q1:((w.alloc (.cells #[.string (zh p),.iface 102 (.pointer (some ⟨g,0,none⟩)),.iface i s] 63)).drewN nq).cell? ⟨w.heap.size,1,none⟩=some (.iface 102 (.pointer (some ⟨g,0,none⟩))):=k1;have q2:((w.alloc (.cells #[.string (zh p),.iface 102 (.pointer (some ⟨g,0,none⟩)),.iface i s] 63)).drewN nq).cell? ⟨w.heap.size,2,none⟩=some (.iface i s):=k2;clear k0 k1 k2 HB V;generalize (w.alloc (.cells #[.string (zh p),.iface 102 (.pointer (some ⟨g,0,none⟩)),.iface i s] 63)).drewN nq=W at *;have q3:∀ j u,[Value.string (zh p),.iface 102 (.pointer (some ⟨g,0,none⟩)),.iface i s][j]?=some u->W.cell? ⟨w.heap.size,j,none⟩=some u:=fun j u h=>by
         match j with
         | 0=>simp at h;subst h;exact q0
         | 1=>simp at h;subst h;exact q1
         | 2=>simp at h;subst h;exact q2
         | j+3=>simp at h
        have hWB:B<=W.heap.size:=by omega
        have heq:=Va (uh Q).apart ((uh HR1).keep (w':=W) (S':=E) (fun k hk=>(uh BX).block k (by have:=(uh Q).lt1 k hk;omega)) (fun _ h=>h)) ((uh HR2).keep (w':=W) (S':=J) (fun k hk=>(uh BX).block k (by have:=(uh Q).lt2 k hk;omega)) (fun _ h=>h)) (uh HNN);rw[uh HE]at heq;have q:W.ownsRow B 63 3 lv N.length (N.flatMap QZ):=Zd (uh HR) (uh BX);have FW:Hid (CF B w W):=CF.of_below (uh BX) K;clear Q HR1 HR2 HNN HE HR BX q3 hXW;go_wp2_with (at_builtin;refine wpList_append_own _ rfl (.tmp 64) (.tmp 66) 55 rfl B 63 i0 (.agg #[.string ByteArray.empty,.nilIface,.nilIface]) 3 48 underlying55 hi0 hz0 hz1 hz2 rfl (by decide) _ _ _ rfl (q.alloc _) ⟨W.heap.size,0,none⟩ 1 1 [.string (zh p),.iface 102 (.pointer (some ⟨g,0,none⟩)),.iface i s] rfl rfl (qf _ _ _ _ _) (by intro u hu;simp at hu;rcases hu with rfl | rfl | rfl<;>rfl) (by unfold maxLen;omega) (by omega) (by simp;omega) ?_);intro v3 w3 A I _;have R3:Hid (ZQ w3 B v3 (N++[(p,.iface 102 (.pointer (some ⟨g,0,none⟩)),.iface i s)])):=ZQ.step A;have F3:Hid (CF B w w3):=((uh FW).trans (CF.of_below ((yI _ _).alloc (ye _) _) hWB)).trans (CF.grown (q.alloc _) I (by simp;omega));clear A I q FW;go_wp2;go_ret;exact⟨_,[(p,.iface 102 (.pointer (some ⟨g,0,none⟩)),.iface i s)],rfl,uh R3,GW (uh O).symm (by first | exact .inl rfl | exact .inr ⟨_,_,rfl⟩) (by first | exact .inl rfl | exact .inr ⟨_,_,rfl⟩) (uh HP0),uh F3⟩
      ·by_cases k6:kd a=6
       ·obtain⟨l,rfl⟩:∃ m,a= .obj m:=by cases a<;>first | exact⟨_,rfl⟩ |(simp[kd]at k6)
        have j6:kd b≠6:=by intro h;cases b<;>simp[kd,qC]at h hc'
        obtain⟨o,mb1,nn1,y,e1,s1,_⟩:=(by have:=v;rwa [zk]at this:∃ ob b nn y,v1= .iface 173 (.pointer (some ⟨ob,0,none⟩))/\E ob/\E b/\w.heap[ob]?=some (.cells #[.map (some b)] 175 (0,0))/\w.ownsMap prog 9 RH b nn (zZ y)/\nn<=y.length/\Zt w E l y);subst e1;have a1:=RY ⟨o,0,none⟩;have a2:=F2 ⟨o,0,none⟩;have a3:=F1 x j6;obtain⟨i,s,rfl⟩:=Qe x;clear k5 k6 j6 hc' v x s1;have V:(w.alloc (.cells #[.string (zh p),.iface 173 (.pointer (some ⟨o,0,none⟩)),.iface i s] 63)).heap.size=w.heap.size+1:=by simp
        have k0:(w.alloc (.cells #[.string (zh p),.iface 173 (.pointer (some ⟨o,0,none⟩)),.iface i s] 63)).cell? ⟨w.heap.size,0,none⟩=some (.string (zh p)):=qf w 63 (.string (zh p)) (.iface 173 (.pointer (some ⟨o,0,none⟩))) (.iface i s) 0 _ rfl;have k1:(w.alloc (.cells #[.string (zh p),.iface 173 (.pointer (some ⟨o,0,none⟩)),.iface i s] 63)).cell? ⟨w.heap.size,1,none⟩=some (.iface 173 (.pointer (some ⟨o,0,none⟩))):=qf w 63 (.string (zh p)) (.iface 173 (.pointer (some ⟨o,0,none⟩))) (.iface i s) 1 _ rfl;have k2:(w.alloc (.cells #[.string (zh p),.iface 173 (.pointer (some ⟨o,0,none⟩)),.iface i s] 63)).cell? ⟨w.heap.size,2,none⟩=some (.iface i s):=qf w 63 (.string (zh p)) (.iface 173 (.pointer (some ⟨o,0,none⟩))) (.iface i s) 2 _ rfl;have q:(w.alloc (.cells #[.string (zh p),.iface 173 (.pointer (some ⟨o,0,none⟩)),.iface i s] 63)).ownsRow B 63 3 lv N.length (N.flatMap QZ):=Zd hr ((yI _ _).alloc (ye _) _);have FW:Hid (CF B w (w.alloc (.cells #[.string (zh p),.iface 173 (.pointer (some ⟨o,0,none⟩)),.iface i s] 63))):=CF.of_below ((yI _ _).alloc (ye _) _) d.size;have z:=Va d.apart (T.keep (w':=w.alloc (.cells #[.string (zh p),.iface 173 (.pointer (some ⟨o,0,none⟩)),.iface i s] 63)) (S':=E) (fun k hk=>Below.heap_alloc _ _ k (by have:=d.lt1 k hk;have:=d.size;omega)) (fun _ h=>h)) (U.keep (w':=w.alloc (.cells #[.string (zh p),.iface 173 (.pointer (some ⟨o,0,none⟩)),.iface i s] 63)) (S':=J) (fun k hk=>Below.heap_alloc _ _ k (by have:=d.lt2 k hk;have:=d.size;omega)) (fun _ h=>h)) C;have K:=d.size;rw[he]at z;have heq:=z;clear z;have O:=ze G;clear G hr T U d C ga gb he;go_in;have hWB:B<=(w.alloc (.cells #[.string (zh p),.iface 173 (.pointer (some ⟨o,0,none⟩)),.iface i s] 63)).heap.size:=by omega
        go_wp2_with (at_builtin;refine wpList_append_own _ rfl (.tmp 64) (.tmp 66) 55 rfl B 63 i0 (.agg #[.string ByteArray.empty,.nilIface,.nilIface]) 3 48 underlying55 hi0 hz0 hz1 hz2 rfl (by decide) _ _ _ rfl (q.alloc _) ⟨w.heap.size+1,0,none⟩ 1 1 [.string (zh p),.iface 173 (.pointer (some ⟨o,0,none⟩)),.iface i s] rfl rfl (Xd _ _ _ _ _ _) (by intro u hu;simp at hu;rcases hu with rfl | rfl | rfl<;>rfl) (by unfold maxLen;omega) (by omega) (by simp;omega) ?_);intro v3 w3 A I _;have R3:Hid (ZQ w3 B v3 (N++[(p,.iface 173 (.pointer (some ⟨o,0,none⟩)),.iface i s)])):=ZQ.step A;have F3:Hid (CF B w w3):=((uh FW).trans (CF.of_below ((yI _ _).alloc (ye _) _) hWB)).trans (CF.grown (q.alloc _) I (by simp;omega));clear A I q FW;go_wp2;go_ret;exact⟨_,[(p,.iface 173 (.pointer (some ⟨o,0,none⟩)),.iface i s)],rfl,uh R3,GW (uh O).symm (by first | exact .inl rfl | exact .inr ⟨_,_,rfl⟩) (by first | exact .inl rfl | exact .inr ⟨_,_,rfl⟩) (uh HP0),uh F3⟩
       ·have a1:=F0 v k5;have a2:=F1 v k6;obtain⟨D,p1,rfl⟩:=Qe v;obtain⟨i,s,rfl⟩:=Qe x;clear k5 k6 hc' v x;have V:(w.alloc (.cells #[.string (zh p),.iface D p1,.iface i s] 63)).heap.size=w.heap.size+1:=by simp
        have k0:(w.alloc (.cells #[.string (zh p),.iface D p1,.iface i s] 63)).cell? ⟨w.heap.size,0,none⟩=some (.string (zh p)):=qf w 63 (.string (zh p)) (.iface D p1) (.iface i s) 0 _ rfl;have k1:(w.alloc (.cells #[.string (zh p),.iface D p1,.iface i s] 63)).cell? ⟨w.heap.size,1,none⟩=some (.iface D p1):=qf w 63 (.string (zh p)) (.iface D p1) (.iface i s) 1 _ rfl;have k2:(w.alloc (.cells #[.string (zh p),.iface D p1,.iface i s] 63)).cell? ⟨w.heap.size,2,none⟩=some (.iface i s):=qf w 63 (.string (zh p)) (.iface D p1) (.iface i s) 2 _ rfl;have q:(w.alloc (.cells #[.string (zh p),.iface D p1,.iface i s] 63)).ownsRow B 63 3 lv N.length (N.flatMap QZ):=Zd hr ((yI _ _).alloc (ye _) _);have FW:Hid (CF B w (w.alloc (.cells #[.string (zh p),.iface D p1,.iface i s] 63))):=CF.of_below ((yI _ _).alloc (ye _) _) d.size;have z:=Va d.apart (T.keep (w':=w.alloc (.cells #[.string (zh p),.iface D p1,.iface i s] 63)) (S':=E) (fun k hk=>Below.heap_alloc _ _ k (by have:=d.lt1 k hk;have:=d.size;omega)) (fun _ h=>h)) (U.keep (w':=w.alloc (.cells #[.string (zh p),.iface D p1,.iface i s] 63)) (S':=J) (fun k hk=>Below.heap_alloc _ _ k (by have:=d.lt2 k hk;have:=d.size;omega)) (fun _ h=>h)) C;have K:=d.size;rw[he]at z;have heq:=z;clear z;have O:=ze G;clear G hr T U d C ga gb he;go_in;have hWB:B<=(w.alloc (.cells #[.string (zh p),.iface D p1,.iface i s] 63)).heap.size:=by omega
        go_wp2_with (at_builtin;refine wpList_append_own _ rfl (.tmp 64) (.tmp 66) 55 rfl B 63 i0 (.agg #[.string ByteArray.empty,.nilIface,.nilIface]) 3 48 underlying55 hi0 hz0 hz1 hz2 rfl (by decide) _ _ _ rfl (q.alloc _) ⟨w.heap.size+1,0,none⟩ 1 1 [.string (zh p),.iface D p1,.iface i s] rfl rfl (Xd _ _ _ _ _ _) (by intro u hu;simp at hu;rcases hu with rfl | rfl | rfl<;>rfl) (by unfold maxLen;omega) (by omega) (by simp;omega) ?_);intro v3 w3 A I _;have R3:Hid (ZQ w3 B v3 (N++[(p,.iface D p1,.iface i s)])):=ZQ.step A;have F3:Hid (CF B w w3):=((uh FW).trans (CF.of_below ((yI _ _).alloc (ye _) _) hWB)).trans (CF.grown (q.alloc _) I (by simp;omega));clear A I q FW;go_wp2;go_ret;exact⟨_,[(p,.iface D p1,.iface i s)],rfl,uh R3,GW (uh O).symm (by first | exact .inl rfl | exact .inr ⟨_,_,rfl⟩) (by first | exact .inl rfl | exact .inr ⟨_,_,rfl⟩) (uh HP0),uh F3⟩
end Go.Proofs.YtpaecnbdoljafaaGreatDoor
namespace Go.Proofs.YtpaecnbdoljafaaGreatDoor
open Go.RowKit Go.Sort Go.Proofs.Tryz
theorem BP(k:List UInt8)(w:Wo)(hk:k.length<=1000000)(g:Nat)(c:w.cell? ⟨g,0,none⟩=some (.string (zh k))):
  Calls prog 108 #[.slice (some ⟨g,0,none⟩) 1 1] w fun e w'=>e= .returned (.string (zh (47 :: zT k)))/\Bw w w':=by
 have h:SS w (some ⟨g,0,none⟩) g 0 [zh k]:=⟨fun _=>rfl,fun j hj=>by
  have:j=0:=by simp at hj;omega
  subst this;exact c⟩
 have a:[zh k].length+qH [zh k]<=1048576:=by simp[qH,zN];omega
 have e:ZC [zh k]=47 :: zT k:=by simp[ZC,Za]
 have:=Nu (some ⟨g,0,none⟩) g 0 1 [zh k] w h a;rw[e]at this;exact this
end Go.Proofs.YtpaecnbdoljafaaGreatDoor
namespace Go.Proofs.YtpaecnbdoljafaaGreatDoor
open Go.RowKit Go.Proofs.Tryz
theorem zdD{K:List (List UInt8×JV)}{q:List UInt8×JV}(h:q∈K):zj q.2<=(K.map fun q=>zj q.2).sum:=V8 (fun q=>zj q.2) h
theorem BQ(l:JL)(k:Nat)(h:k<l.toL.length):zX (zu (.arr l)) (zM k)=some l.toL[k]:=by
 have:∀ (a:List JV) (b j:Nat) (d:j<a.length),zX (ZX b a) (zM (b+j))=some a[j]:=by
  intro a;induction a with
  | nil=>intro b j d;simp at d
  | cons v r ih=>
   intro b j d;unfold zX at *;rw[ZX,List.find?_cons]
   cases j with
   | zero=>simp
   | succ j=>
    have f:(zM b ==zM (b+(j+1)))=false:=by
     rw[yd];intro e;have:=WN e;omega
    rw[show ((zM b,v).1 ==zM (b+(j+1)))=false from f];have:=ih (b+1) j (by simpa using d);rw[show b+1+j=b+(j+1) by omega]at this;simpa using this
 have:=this l.toL 0 k h
 rwa [Nat.zero_add]at this
theorem zdE{n:Nat}{p:List UInt8}{a b:JV}(ha:zD a)(hb:zD b)(ta:zw a=false)(tb:zw b=false)(hc:qC a b=true){key:List UInt8}(hk:key∈Zc a b):(qT n p a b key).length<=cw a b key:=by
 unfold qT cw
 cases hu:zX (zu a) key with
 | none=>
  cases hv:zX (zu b) key with
  | none=>
   rcases UV hc hk with h | h
   ·exact absurd h (Vb.1 hu)
   ·exact absurd h (Vb.1 hv)
  | some v=>have:=qz v;simp[Qv];omega
 | some u=>
  have d:=qz u
  cases hv:zX (zu b) key with
  | none=>simp[Qv];omega
  | some v=>
   obtain⟨f,g,_,_⟩:=JG ha ta (YU hu);obtain⟨i,j,_,_⟩:=JG hb tb (YU hv);have:=Sf n (Zp p key) u v f i g j;simp only[Qv];omega
theorem BR{n:Nat}{p:List UInt8}{a b:JV}(ha:zD a)(hb:zD b)(ta:zw a=false)(tb:zw b=false)(hc:qC a b=true)(k:Nat)(hk:k<(Zc a b).length):(((Zc a b).take k).flatMap (qT n p a b)).length+cw a b (Zc a b)[k]<=zj a+zj b:=by
 have g:=Sd (qT n p a b) (cw a b) ((Zc a b).take k) (fun key h=>zdE ha hb ta tb hc (List.mem_of_mem_take h));have e:((Zc a b).map (cw a b)).sum=((Zc a b).map fun k=>Qv (zX (zu a) k)).sum+((Zc a b).map fun k=>Qv (zX (zu b) k)).sum:=Se _ _ _;have s1:=Xf (zu a) _ (Xg (a:=a) (b:=b) ta);have s2:=Xf (zu b) _ (Xg (a:=a) (b:=b) ta);have i:=JH a;have j:=JH b;have d:(((Zc a b).take (k+1)).map (cw a b)).sum<=((Zc a b).map (cw a b)).sum:=by
  have f:Zc a b=(Zc a b).take (k+1)++(Zc a b).drop (k+1):=(List.take_append_drop _ _).symm
  conv=>rhs;rw[f]
  rw[yx,List.sum_append];omega
 rw[yz hk,yx,List.sum_append]at d;simp only[yi,List.map_nil,yM,List.sum_nil]at d;omega
theorem UU{n:Nat}{p:List UInt8}{a:JV}{key:List UInt8}{u:JV}(ha:zD a)(ta:zw a=false)(da:zm a<=n+1)(la:(ct a).length<=1000000)(lp:p.length+2*(ct a).length<=4000000)(h:zX (zu a) key=some u):Xe n (Zp p key) (some u)/\zj u+1<=zj a/\(Zp p key).length<=4000000/\key.length<=1000000:=by
 obtain⟨b,d,f,g⟩:=JG ha ta (YU h);simp only at b d f g;have i:=FL p key;have j:=JH a;have k:zj u<=_:=zdD (YU h);exact⟨⟨b,d,by omega,by omega,by omega⟩,by omega,by omega,by omega⟩
theorem zdF(n:Nat)(hA:AC n)(a b:JV)(k5:kd a=5)(hc:qC a b=true)(oka:zD a)(okb:zD b)(twa:zw a=false)(twb:zw b=false)(da:zm a<=n+1)(db:zm b<=n+1)(la:(ct a).length<=1000000)(lb:(ct b).length<=1000000):HC 162 n a b:=by
 intro P p ys lv t1 t2 ad1 ad2 w B S1 S2 lpa lpb hcn hr h1 h2 htw hpw;obtain⟨l,rfl⟩:∃ l,a= .arr l:=by cases a<;>first | exact⟨_,rfl⟩ |(simp[kd]at k5)
 obtain⟨m,rfl⟩:∃ m,b= .arr m:=by cases b<;>first | exact⟨_,rfl⟩ |(simp[qC]at hc)
 have hlen:l.toL.length=m.toL.length:=by simpa [qC]using hc
 have h1':=h1;have h2':=h2;rw[zk]at h1' h2';obtain⟨ab,sv,xs,e1,s1,g1,r1,rl1⟩:=h1';obtain⟨ab2,sv2,xs2,e2,s2,g2,r2,rl2⟩:=h2';injection e1 with _ e1;injection e1 with e1;injection e1 with e1;subst e1;injection e2 with _ e2;injection e2 with e2;injection e2 with e2;subst e2;obtain⟨x1,gr1,c1,rfl,hadr1,hcell1⟩:=J1 r1;obtain⟨x2,gr2,c2,rfl,hadr2,hcell2⟩:=J1 r2;obtain⟨n1,rep1⟩:=QY l xs rl1;obtain⟨n2,rep2⟩:=QY m xs2 rl2;have hBs:=htw.size;have hxn:xs.length<=1000000:=by
  have h3:=JH (.arr l);have h4:(zu (.arr l)).length<=((zu (.arr l)).map fun q=>zj q.2).sum:=by
   have:∀ l:List (List UInt8×JV),l.length<=(l.map fun q=>zj q.2).sum:=by
    intro l;induction l with
    | nil=>simp
    | cons q r ih=>have h3:=(qz q.2);rw[yi,yM,yp];omega
   exact this _
  have h5:(zu (.arr l)).length=l.toL.length:=by show (ZX 0 l.toL).length=_;rw[Vz]
  omega
 have C1:Hid (∀ X:Wo,Below B w X->X.cell? ⟨ab,0,none⟩=some (.slice x1 xs.length c1)):=fun X hX=>by
  rw[hX.cell (p:=⟨ab,0,none⟩) (htw.lt1 _ s1),yG g1];rfl
 have C2:Hid (∀ X:Wo,Below B w X->X.cell? ⟨ab2,0,none⟩=some (.slice x2 xs2.length c2)):=fun X hX=>by
  rw[hX.cell (p:=⟨ab2,0,none⟩) (htw.lt2 _ s2),yG g2];rfl
 have HX:Hid (∀ k (hk:k<xs.length) (hk2:k<xs2.length),∃ t q t' q',(x1=some ⟨gr1,0,none⟩/\x2=some ⟨gr2,0,none⟩)/\(∀ X:Wo,Below B w X->X.cell? ⟨gr1,k,none⟩=some (.iface t q))/\(∀ X:Wo,Below B w X->X.cell? ⟨gr2,k,none⟩=some (.iface t' q'))/\(Zp p (zM k)).length<=4000000/\(zM k).length<=1000000 /\
   ∀ (wr:Wo) (u:Value) (zs:List ZJ),CF B w wr->ZQ wr B u (ys++zs)->ZM P zs (((Zc (.arr l) (.arr m)).take k).flatMap (qT n p (.arr l) (.arr m)))->Calls prog 118 #[u,.agg #[.string (zh (Zp p (zM k))),.iface t q,.iface t' q']] wr fun e w'=>∃ (r:Value) (zs':List ZJ),e= .returned r/\ZQ w' B r (ys++zs')/\ZM P zs' (((Zc (.arr l) (.arr m)).take (k+1)).flatMap (qT n p (.arr l) (.arr m)))/\CF B wr w'):=fun k hk hk2=>by
  obtain⟨t,q,he⟩:=Qe (rep1 k hk (by omega));obtain⟨t',q',he'⟩:=Qe (rep2 k hk2 (by omega));have f1:=BQ l k (by omega);have f2:=BQ m k (by omega);obtain⟨ga,ca,pa,ka⟩:=UU oka twa da la lpa f1;obtain⟨gb,cb,pb,kb⟩:=UU okb twb db lb lpb f2;refine⟨t,q,t',q',⟨(hadr1 (by omega)).1,(hadr2 (by omega)).1⟩,fun X hX=>?_,fun X hX=>?_,pa,ka,fun wr u zs f hu hz=>?_⟩
  ·rw[← he];exact (hX.cell (p:=⟨gr1,k,none⟩) (htw.lt1 _ (hadr1 (by omega)).2)).trans (hcell1 k hk)
  ·rw[← he'];exact (hX.cell (p:=⟨gr2,k,none⟩) (htw.lt2 _ (hadr2 (by omega)).2)).trans (hcell2 k hk2)
  ·have hkl:k<(Zc (.arr l) (.arr m)).length:=by show k<((ZX 0 l.toL).map (·.1)).length;rw[yl,Vz];omega
   have hke:(Zc (.arr l) (.arr m))[k]=zM k:=by
    have e:(Zc (.arr l) (.arr m))[k]?=some (zM k):=by
     show ((ZX 0 l.toL).map (·.1))[k]?=_
     rw[List.getElem?_map,yy (by rw[Vz];omega),GN,Nat.zero_add];rfl
    rw[yy hkl]at e;injection e
   have hroom:=BR (n:=n) (p:=p) oka okb twa twb hc k hkl;rw[hke]at hroom;unfold cw at hroom;rw[f1,f2]at hroom;simp only[Qv]at hroom;have hzl:zs.length=(((Zc (.arr l) (.arr m)).take k).flatMap (qT n p (.arr l) (.arr m))).length:=by
    have:=congrArg List.length hz.1
    rwa [yl]at this
   have hpk:=hpw.kid twa twb (by omega) (by omega) (zM k);rw[f1,f2]at hpk;refine (hA P (some l.toL[k]) (some m.toL[k]) (Zp p (zM k)) (ys++zs) u _ _ wr B S1 S2 ga gb (.inl (by simp)) pa (by simp only[Qv,yh];omega) hu (by rw[← he];exact zk.keep (fun j hj=>f.1.block j (htw.lt1 j hj)) (fun _ h=>h) _ _ (rep1 k hk (by omega))) (by rw[← he'];exact zk.keep (fun j hj=>f.1.block j (htw.lt2 j hj)) (fun _ h=>h) _ _ (rep2 k hk2 (by omega))) (htw.next f.1) (hpk.back (fun j hj=>f.1.block j (htw.lt1 j hj)) (fun j hj=>f.1.block j (htw.lt2 j hj)))).mono ?_;rintro e w' ⟨r,zs',rfl,o,z,c⟩;refine⟨r,zs++zs',rfl,by rw[← List.append_assoc];exact o,?_,c⟩;have h9:=BM hz z
   rwa [show WV n (Zp p (zM k)) (some l.toL[k]) (some m.toL[k])=qT n p (.arr l) (.arr m) (zM k) by rw[BL,f1,f2],← hke,← RE _ _ k hkl]at h9
 have HEND:Hid (∀ zs:List ZJ,ZM P zs (((Zc (.arr l) (.arr m)).take xs.length).flatMap (qT n p (.arr l) (.arr m)))->ZM P zs ((Zc (.arr l) (.arr m)).flatMap (qT n p (.arr l) (.arr m)))):=fun zs h=>by
  refine⟨?_,h.2⟩;rw[h.1,yr];show ((ZX 0 l.toL).map (·.1)).length<=_
  rw[yl,Vz];omega
 have hxe:xs.length=xs2.length:=by omega
 have HXE:=ze hxe;have HPW:=ze htw.pow;have hpl:p.length<=4000000:=by omega
 clear rep1 rep2 hcell1 hcell2 hadr1 hadr2 rl1 rl2 r1 r2 g1 g2 h1 h2 htw s1 s2 hA hc k5 oka okb twa twb da db la lb lpa lpb hcn n1 n2 hlen hxe hpw;have O0:Hid (ZQ w B lv (ys++[])):=by rw[yT];exact hr
 have y1:=uh C1 w (yI _ _);generalize Zc (.arr l) (.arr m)=keys at *;generalize qT n p (.arr l) (.arr m)=C at *;go_in;go_wp2_with fail;go_loopw [0,16] (fun u i wr=>∃ (k:Nat) (zs:List ZJ),k<=xs.length/\i= .int .i64 (k:Int)/\ZQ wr B u (ys++zs)/\ZM P zs ((keys.take k).flatMap C)/\CF B w wr) (fun _ i _=>xs.length - (intOf i).toNat)
 case atStart=>exact⟨0,[],yu _,rfl,uh O0,RW (by simp),CF.refl _ _⟩
 case round=>
  obtain⟨k,zs,hk,rfl,ho,hz,hf⟩:=hrel;clear O0 y1;by_cases hlt:k<xs.length
  ·have hltI:(k:Int)<(xs.length:Int):=by omega
   have hlt2:k<xs2.length:=by have:=uh HXE;omega
   have hltI2:(k:Int)<(xs2.length:Int):=by omega
   obtain⟨t,q,t',q',⟨rfl,rfl⟩,hc1,hc2,l1,l2,hcall⟩:=uh HX k hlt hlt2;have HC2X:Hid (∀ X:Wo,Below B w X->X.cell? ⟨gr2,k,none⟩=some (.iface t' q')):=hc2;have y1:=hc1 wr hf.1;have d2:=uh C2 wr hf.1;have e2:=hc2 wr hf.1;have HCALL:=ze hcall;have HO:=ze ho;have HZ:=ze hz;have HF:=ze hf;have hwB:B<=wr.heap.size:=by have:=hf.1.size;omega
   have HIT:=ze (zdy k wr.drew (by omega) ((((uh HPW).next hf.1 (ye _)).more hwB)));have hcat:zh p++zh (47 :: zT (zM k))=zh (Zp p (zM k)):=Vs _ _;have hzz:(9223372036854775807<(zh p).size+(zh (47 :: zT (zM k))).size)=False:=yR (by
    rw[zN,zN];have:=Vg (zM k);simp only[yp];omega)
   have HT:Hid (∀ (w:Wo) (g:Nat),w.cell? ⟨g,0,none⟩=some (.string (zh (zM k)))->Calls prog 108 #[.slice (some ⟨g,0,none⟩) 1 1] w (Rb (.string (zh (47 :: zT (zM k)))) w)):=fun w g c=>BP (zM k) w l2 g c;clear hcall ho hz hf hc1 hc2 HX HEND;generalize zh (Zp p (zM k))=np at *;generalize zh (47 :: zT (zM k))=tk at *;generalize zh (zM k)=key at *;go_wp2_with fail
   go_region_law (first
     |(have hb6:=b6';go_simp;refine (uh HCALL _ u0 zs F6 O6 (uh HZ)).mono ?_;rintro e w7 ⟨r7,zs7,rfl,o7,z7,f7⟩)
     |(
       have hb4:=b4;go_simp;refine (uh HTA).mono ?_;rintro e w6 ⟨rfl,b6⟩;have b6':=zi bA b6;have F6:CF B w w6:=(uh HF).trans (CF.of_below b6' hwB);have O6:ZQ w6 B u0 (ys++zs):=Zd (uh HO) b6';have m2:=uh C2 w6 F6.1;have n2:=uh HC2X w6 F6.1)
     |(
       go_simp;refine (uh HIT).mono ?_;rintro e w4 ⟨rfl,b4⟩;have b4':Bw wr w4:=zi ((yI _ _).drew) b4;have bA:Bw wr (w4.alloc (.cells #[.string key] 9)):=b4'.alloc b4'.size _;have F4:CF B w w4:=(uh HF).trans (CF.of_below b4' hwB);have FA:CF B w (w4.alloc (.cells #[.string key] 9)):=(uh HF).trans (CF.of_below bA hwB);have p2:=uh C2 w4 F4.1;have r2:=uh HC2X w4 F4.1;have pA:=uh C2 _ FA.1;have rA:=uh HC2X _ FA.1;have aT:(w4.alloc (.cells #[.string key] 9)).cell? ⟨w4.heap.size,0,none⟩=some (.string key):=Qi w4 9 (.string key) 0 _ rfl;have HTA:=ze (uh HT _ _ aT)))
   all_goals
    have O7:=ze o7;have Z7:=ze z7;have F7:=ze (F6.trans f7);clear o7 z7 f7 O6 F6 m2 n2 p2 r2 pA rA F4 FA bA b4 b4' b6 b6' aT HTA HCALL HIT HT HO HZ HF HC2X y1 d2 e2;go_wp2;go_roundw
   all_goals first
    | exact⟨k+1,zs7,by omega,by go_num,uh O7,uh Z7,uh F7⟩
    |(simp[intOf];omega)
  ·have hk':k=xs.length:=by omega
   subst hk';have HZ:=ze (uh HEND zs hz);have HO:=ze ho;have HF:=ze hf;clear ho hz hf HX HEND;go_wp2;go_ret;exact⟨_,zs,rfl,uh HO,uh HZ,uh HF⟩
end Go.Proofs.YtpaecnbdoljafaaGreatDoor
namespace Go.Proofs.YtpaecnbdoljafaaGreatDoor
open Go.RowKit Go.Sort Go.Proofs.Tryz
theorem zdG{w:Wo}{b n:Nat}{xs:List (List UInt8×Value)}(h:w.ownsMap prog 9 RH b n (zZ xs))(key:List UInt8)(hk:key.length<=10000000)(hv:Je xs key=none):
  (Instr.lookup 172 (.map (some b)) (.string (zh key)) false).run prog w= .ok .nilIface w:=by
 obtain⟨r,g,o,F,_,m⟩:=h;have f:keyOf prog 9 (.string (zh key))=some (.string key):=by
  have:=WideMaps.keyOf_string_mk underlying9 (s:=zh key) (by rw[zN];unfold maxLen;omega)
  rwa [Za]at this
 have p:(zeroValue 61).run prog w= .ok .nilIface w:=by kernel_rfl
 have d:=fun z=>WJ key z xs;rw[m]at d;rcases Maps.fit_look false (Maps.string_keyed underlying9) underlying172 p o F f with ⟨a,_,i⟩ |⟨q,y,_,_,a,j,i,_⟩
 ·exact a
 ·injection j with j;subst j;have k:=(i (.held .nilIface)).symm.trans (d (.held .nilIface));have l:=(i (.held (.bool true))).symm.trans (d (.held (.bool true)));rw[hv]at k l;exact absurd (k.symm.trans l) (by intro e;injection e with e;cases e)
theorem BT{w:Wo}{S:Nat->Prop}{B:Nat}{l:JM}{t:TypeId}{ad:Addr}(h:zk w S (.obj l) (.iface t (.pointer (some ad))))(htw:zw (.obj l)=false)(hl:(ct (.obj l)).length<=1000000)(hS:∀ k,S k->k<B):
  ∃ ob mb,ad=⟨ob,0,none⟩/\(∀ X:Wo,Below B w X->X.cell? ⟨ob,0,none⟩=some (.map (some mb))) /\
   (∀ X:Wo,Below B w X->Calls prog 199 #[.pointer (some ⟨ob,0,none⟩)] X fun e w'=>∃ v,e= .returned v/\OT w' X.heap.size v ((zu (.obj l)).map (·.1))/\Bw X w') /\
   (∀ key:List UInt8,key.length<=1000000->∃ v,(∀ X:Wo,Below B w X->(Instr.lookup 172 (.map (some mb)) (.string (zh key)) false).run prog X= .ok v X)/\QS w S (zX (zu (.obj l)) key) v):=by
 rw[zk]at h;obtain⟨ob,mb,V,d,h,n,f,I,b,_,K⟩:=h;injection h with _ h;injection h with h;injection h with h;obtain⟨a,z⟩:=YB l d K;rw[zw]at htw;have G:=(WD l [] htw).1;have i:(d.map (·.1)).Nodup:=by rw[a];exact G
 have g:=WS b i;have F:l.toL.length=d.length:=by
  have N:=congrArg List.length a;rw[Qs]at N;simp only[yl]at N;omega
 have J:(JF l.toL).length=d.length:=by rw[(Yy _).length_eq,F]
 have U:d.length<=1000000:=by
  have O:=Jm l;unfold hold at O;have W:l.toL.length<=(l.toL.map Zo).sum:=by
   have:∀ l:List (List UInt8×JV),l.length<=(l.map Zo).sum:=by
    intro l;induction l with
    | nil=>simp
    | cons q r ih=>have Y:1<=Zo q:=(by unfold Zo;omega);rw[yi,yM,yp];omega
   exact this _
  omega
 have C:w.cell? ⟨ob,0,none⟩=some (.map (some mb)):=by rw[yG I];rfl
 have A:Maps.size (zZ d)=d.length:=by rw[WT g,yl]
 have M:∀ X:Wo,Below B w X->X.cell? ⟨ob,0,none⟩=some (.map (some mb)):=fun X hX=>(hX.cell (p:=⟨ob,0,none⟩) (hS _ n)).trans C;refine⟨ob,mb,h,M,fun X hX=>?_,fun key hkl=>?_⟩
 ·refine (Bj ob mb V (zZ d) RH X (M X hX) (YR b (hX.block mb (hS _ f))) (by rw[A];unfold maxLen;omega) (by rw[A];omega)).mono ?_;rintro e w' ⟨v,ss,rfl,L,j,_,P⟩;have s:ss.Perm ((zl l).map (·.1)):=by
   rw[WA,← a];exact L.trans g.symm
  have E:ss.length=d.length:=by rw[s.length_eq,WA,← a,yl]
  rw[My s,E,zdz]at j;refine⟨v,rfl,?_,P⟩;show w'.ownsRow _ _ 1 v ((JF l.toL).map (·.1)).length (((JF l.toL).map (·.1)).map QJ)
  rw[yl,J];exact j
 ·have o:=FC key d;have D:(zu (.obj l)).map (·.1)=(JF l.toL).map (·.1):=rfl
  cases hf:zX (zu (.obj l)) key with
  | none=>
   have H:Je d key=none:=by
    rw[Vb,D]at hf;have:(Je d key).isSome=false:=by
     rw[o,List.contains_eq_mem,decide_eq_false_iff_not,a,Qs];intro Q;obtain⟨q,R,e⟩:=yP.1 Q;exact hf (yP.2 ⟨q,(Yy _).symm.subset R,e⟩)
    simpa using this
   exact⟨.nilIface,fun X hX=>zdG (YR b (hX.block mb (hS _ f))) key (by omega) H,rfl⟩
  | some u=>
   have y:(key,u)∈l.toL:=(Yy _).subset (YU hf);obtain⟨x,hx,T⟩:=z key u y;have m:=GU d i hx;exact⟨x,fun X hX=>Bk (YR b (hX.block mb (hS _ f))) key (by omega) _ m,T⟩
end Go.Proofs.YtpaecnbdoljafaaGreatDoor
namespace Go.Proofs.YtpaecnbdoljafaaGreatDoor
open Go.RowKit Go.Proofs.Tryz
theorem CF.sorted{B:Nat}{w w':Wo}{v:Value}{B' n:Nat}{xs:List Value}(h:w.ownsRow B' 9 1 v n xs)(hg:w.grownBy w' v.ownBlock)(hB:B<=B')(hz:B<=w.heap.size):Below B w w':=
 (yI B w).grown hg hz (fun k hk=>yQ hB (h.lt k hk).1)
theorem zdH(l m:JM):Lib.compact (WU ((zu (.obj l)).map (·.1)++(zu (.obj m)).map (·.1)))=Zc (.obj l) (.obj m):=CG _
theorem BU{w:Wo}{S:Nat->Prop}{o:Option JV}{v:Value}(h:QS w S o v):v= .nilIface∨∃ t q,v= .iface t q:=by
 cases o with
 | none=>exact .inl h
 | some a=>obtain⟨t,q,e⟩:=Qe (show zk w S a v from h);exact .inr ⟨t,q,e⟩
theorem zdI(n:Nat)(hA:AC n)(a b:JV)(k6:kd a=6)(hc:qC a b=true)(oka:zD a)(okb:zD b)(twa:zw a=false)(twb:zw b=false)(da:zm a<=n+1)(db:zm b<=n+1)(la:(ct a).length<=1000000)(lb:(ct b).length<=1000000):HC 163 n a b:=by
 intro P p ys lv t1 t2 ad1 ad2 w B S1 S2 lpa lpb hcn hr h1 h2 v hpw;obtain⟨l,rfl⟩:∃ l,a= .obj l:=by cases a<;>first | exact⟨_,rfl⟩ |(simp[kd]at k6)
 obtain⟨m,rfl⟩:∃ m,b= .obj m:=by cases b<;>first | exact⟨_,rfl⟩ |(simp[qC]at hc)
 obtain⟨ob1,M,rfl,C1,K1,L1⟩:=BT h1 twa la v.lt1;obtain⟨ob2,N,rfl,C2,K2,L2⟩:=BT h2 twb lb v.lt2;have hBs:=v.size;have HKB:=ze (zdH l m);have ak:∀ (j:JM),(ct (.obj j)).length<=1000000->((zu (.obj j)).map (·.1)).length<=1000000:=fun j hj=>by
  have h3:=Jm j;have h2:j.toL.length<=(j.toL.map Zo).sum:=by
   have:∀ l:List (List UInt8×JV),l.length<=(l.map Zo).sum:=by
    intro l;induction l with
    | nil=>simp
    | cons q r ih=>have h3:1<=Zo q:=(by unfold Zo;omega);rw[yi,yM,yp];omega
   exact this _
  show ((JF j.toL).map (·.1)).length<=_
  rw[yl,(Yy _).length_eq];unfold hold at h3;omega
 have n1:=ak l la;have n2:=ak m lb;have HX:Hid (∀ k (hk:k<(Zc (.obj l) (.obj m)).length),∃ E F,(E= .nilIface∨∃ t q,E= .iface t q)/\(F= .nilIface∨∃ t q,F= .iface t q) /\
   (∀ X:Wo,Below B w X->(Instr.lookup 172 (.map (some M)) (.string (zh (Zc (.obj l) (.obj m))[k])) false).run prog X= .ok E X)/\(∀ X:Wo,Below B w X->(Instr.lookup 172 (.map (some N)) (.string (zh (Zc (.obj l) (.obj m))[k])) false).run prog X= .ok F X) /\
   (Zp p (Zc (.obj l) (.obj m))[k]).length<=4000000/\(Zc (.obj l) (.obj m))[k].length<=1000000 /\
   ∀ (wr:Wo) (u:Value) (x:List ZJ),CF B w wr->ZQ wr B u (ys++x)->ZM P x (((Zc (.obj l) (.obj m)).take k).flatMap (qT n p (.obj l) (.obj m)))->Calls prog 118 #[u,.agg #[.string (zh (Zp p (Zc (.obj l) (.obj m))[k])),E,F]] wr fun e D=>∃ (r:Value) (Y:List ZJ),e= .returned r/\ZQ D B r (ys++Y)/\ZM P Y (((Zc (.obj l) (.obj m)).take (k+1)).flatMap (qT n p (.obj l) (.obj m)))/\CF B wr D):=fun k hk=>by
  have hin:=UV hc (yt hk);have al:=BR (n:=n) (p:=p) oka okb twa twb hc k hk;have aj:=RE (qT n p (.obj l) (.obj m)) (Zc (.obj l) (.obj m)) k hk;generalize (Zc (.obj l) (.obj m))[k]=s at *;unfold cw at al;have hnn:zX (zu (.obj l)) s≠none∨zX (zu (.obj m)) s≠none:=by
   rcases hin with h | h
   ·exact .inl fun e=>Vb.1 e h
   ·exact .inr fun e=>Vb.1 e h
  have ga:Xe n (Zp p s) (zX (zu (.obj l)) s):=by
   cases L:zX (zu (.obj l)) s with
   | none=>exact trivial
   | some u=>exact (UU oka twa da la lpa L).1
  have gb:Xe n (Zp p s) (zX (zu (.obj m)) s):=by
   cases L:zX (zu (.obj m)) s with
   | none=>exact trivial
   | some u=>exact (UU okb twb db lb lpb L).1
  have y:(Zp p s).length<=4000000/\s.length<=1000000:=by
   rcases hnn with h | h
   ·obtain⟨u,hu⟩:=Option.ne_none_iff_exists'.1 h;exact (UU oka twa da la lpa hu).2.2
   ·obtain⟨u,hu⟩:=Option.ne_none_iff_exists'.1 h;exact (UU okb twb db lb lpb hu).2.2
  obtain⟨E,V,r1⟩:=L1 s y.2;obtain⟨F,W,r2⟩:=L2 s y.2;refine⟨E,F,BU r1,BU r2,V,W,y.1,y.2,fun wr u x f hu hz=>?_⟩;have hzl:x.length=(((Zc (.obj l) (.obj m)).take k).flatMap (qT n p (.obj l) (.obj m))).length:=by
   have:=congrArg List.length hz.1
   rwa [yl]at this
  refine (hA P _ _ (Zp p s) (ys++x) u E F wr B S1 S2 ga gb hnn y.1 (by rw[yh];omega) hu (r1.keep (fun j hj=>f.1.block j (v.lt1 j hj)) (fun _ h=>h)) (r2.keep (fun j hj=>f.1.block j (v.lt2 j hj)) (fun _ h=>h)) (v.next f.1) ((hpw.kid twa twb (by omega) (by omega) s).back (fun j hj=>f.1.block j (v.lt1 j hj)) (fun j hj=>f.1.block j (v.lt2 j hj)))).mono ?_;rintro e D ⟨r,Y,rfl,o,z,c⟩;refine⟨r,x++Y,rfl,by rw[← List.append_assoc];exact o,?_,c⟩;have h9:=BM hz z;rw[aj,BL];exact h9
 have H:Hid (∀ x:List ZJ,ZM P x (((Zc (.obj l) (.obj m)).take (Zc (.obj l) (.obj m)).length).flatMap (qT n p (.obj l) (.obj m)))->ZM P x ((Zc (.obj l) (.obj m)).flatMap (qT n p (.obj l) (.obj m)))):=fun x h=>by
  rw[List.take_length]at h;exact h
 have HC1:=ze C1;have HC2:=ze C2;have HK1:=ze (K1 w (yI _ _));have HK2:=ze K2;have O0:Hid (ZQ w B lv (ys++[])):=by rw[yT];exact hr
 have hpl:p.length<=4000000:=by omega
 have hkl:(Zc (.obj l) (.obj m)).length<=2000000:=by
  have h3:=F9 _ ((zu (.obj l)).map (·.1)++(zu (.obj m)).map (·.1)) rfl;rw[yh]at h3;show (Qg _).length<=_
  omega
 have R:((zu (.obj l)).map (·.1)).length+((zu (.obj m)).map (·.1)).length<=1000000:=by
  have s1:=JH (.obj l);have s2:=JH (.obj m);have s3:∀ l:List (List UInt8×JV),l.length<=(l.map fun q=>zj q.2).sum:=by
   intro l;induction l with
   | nil=>simp
   | cons q r ih=>have h3:=(qz q.2);rw[yi,yM,yp];omega
  have s4:=s3 (zu (.obj l));have s5:=s3 (zu (.obj m));rw[yl,yl];omega
 clear C1 C2 K1 K2 L1 L2 h1 h2 v hA hc k6 oka okb twa twb da db la lb lpa lpb hcn hr ak n1 n2 hpw;generalize qT n p (.obj l) (.obj m)=C at *;generalize Zc (.obj l) (.obj m)=d at *;generalize (zu (.obj l)).map (·.1)=T at *;generalize (zu (.obj m)).map (·.1)=U at *;go_in;go_wp2_with fail;refine (uh HK1).mono ?_;rintro e w1 ⟨v1,rfl,o1,b1⟩;have aa:=ze (uh HK2 w1 (b1.mono hBs));have HO1:=ze o1;have HB1:=ze b1;clear HK1 HK2 o1 b1;go_wp2_with fail;refine (uh aa).mono ?_;rintro e w2 ⟨v2,rfl,o2,b2⟩;have o12:=Zd (uh HO1) b2;obtain⟨a1,-,c1,rfl,-,-⟩:=OT.shape o12;obtain⟨a2,-,c2,rfl,-,-⟩:=OT.shape o2;have O:=Z0 w2 (.cells #[.slice a1 T.length c1,.slice a2 U.length c2] 30);have k3:=yH w2 (.cells #[.slice a1 T.length c1,.slice a2 U.length c2] 30);have Z:=ze (zbR w2.heap.size _ _ T U _ (yG k3 0) (yG k3 1) (Zd o12 O) (Zd o2 O) R);have af:=ze (zi (zi (uh HB1) b2) O);clear aa HO1 HB1 b2 o2 o12 O k3;go_wp2_with fail;generalize (w2.alloc (.cells #[.slice a1 T.length c1,.slice a2 U.length c2] 30))=w3 at *;refine (uh Z).mono ?_;rintro e w4 ⟨r4,rfl,o4,b4⟩;have HS:=ze (BI r4 _ w4 o4 (by rw[yh];exact R));have HO4:=ze o4;have HB4:=ze (zi (uh af) b4);have hz3:=(uh af).size;have hz4:=b4.size;clear Z o4 b4;go_wp2_with fail;refine (uh HS).mono ?_;rintro e w5 ⟨rfl,o5,g5⟩;have ag:=ze ((uh HB4).grown g5 (by omega) (fun b hb=>by have:=((uh HO4).lt b hb).1;omega));have ah:=ze (BJ r4 _ w5 o5 (by rw[FZ,yh];exact R));rw[uh HKB]at ah;have ai:=ze o5;have hz5:=g5.size;clear HS o5 g5 HKB;go_wp2_with fail;refine (uh ah).mono ?_;rintro e w6 ⟨r6,rfl,o6,g6⟩;have HF6:=ze (CF.of_below ((uh ag).grown g6 (by omega) (fun b hb=>by have:=((uh ai).lt b hb).1;omega)) hBs);have HO6:=ze o6;have O6':Hid (ZQ w6 B lv (ys++[])):=Zd (uh O0) ((uh ag).grown g6 (by omega) (fun b hb=>by have:=((uh ai).lt b hb).1;omega));obtain⟨a6,-,c6,rfl,-,-⟩:=OT.shape o6;have A:Hid (∀ (X:Wo),OT X w3.heap.size (.slice a6 d.length c6) d->∀ j (hj:j<d.length),∃ g,a6=some ⟨g,0,none⟩/\X.cell? ⟨g,j,none⟩=some (.string (zh d[j]))):=fun X h j hj=>by
  rcases h.2 with ⟨hv,h0⟩ |⟨g,cap,cur,hv,_⟩
  ·omega
  ·injection hv with hv1 hv2 hv3;subst hv1;refine⟨g,rfl,?_⟩;rw[h.cellAt j (by omega)];simp[hj];rfl
 clear ah o6 g6 ai HO4 ag HB4 af hz5 hz4 R;go_wp2;go_loopw [0,23] (fun u i wr=>∃ (k:Nat) (x:List ZJ),k<=d.length/\i= .int .i64 (k:Int)/\ZQ wr B u (ys++x)/\ZM P x ((d.take k).flatMap C)/\CF B w wr/\OT wr w3.heap.size (.slice a6 d.length c6) d) (fun _ i _=>d.length - (intOf i).toNat)
 case atStart=>exact⟨0,[],yu _,rfl,uh O6',RW (by simp),uh HF6,uh HO6⟩
 case round=>
  obtain⟨k,x,hk,rfl,ho,hz,L,Q⟩:=hrel;clear O0 O6' HF6 HO6;by_cases hlt:k<d.length
  ·have hltI:(k:Int)<(d.length:Int):=by omega
   obtain⟨E,F,f1,f2,V,W,l1,l2,K⟩:=uh HX k hlt;obtain⟨g,rfl,y1⟩:=uh A wr Q k hlt;have d1:=uh HC1 wr L.1;have d2:=uh HC2 wr L.1;have S:B<=wr.heap.size:=by have:=L.1.size;omega
   have ab:=ze V;have ad:=ze W;have G:=ze K;have HO:=ze ho;have HZ:=ze hz;have HF:=ze L;have HKR:=ze Q;have hcat:zh p++zh (47 :: zT d[k])=zh (Zp p d[k]):=Vs _ _;have hzz:(9223372036854775807<(zh p).size+(zh (47 :: zT d[k])).size)=False:=yR (by
    rw[zN,zN];have:=Vg d[k];simp only[yp];omega)
   have HT:Hid (∀ (w:Wo) (g:Nat),w.cell? ⟨g,0,none⟩=some (.string (zh d[k]))->Calls prog 108 #[.slice (some ⟨g,0,none⟩) 1 1] w fun e D=>e= .returned (.string (zh (47 :: zT d[k])))/\Bw w D):=fun w g c=>BP d[k] w l2 g c;clear K ho hz L Q V W HX H A;generalize zh (Zp p d[k])=np at *;generalize zh (47 :: zT d[k])=tk at *;generalize zh d[k]=s at *;have bD:Bw wr wr.drew:=(yI _ _).drew;have bA:Bw wr ((wr.alloc (.cells #[.string s] 9)).drew):=((yI _ _).alloc (ye _) _).drew;have FD:CF B w wr.drew:=(uh HF).trans (CF.of_below bD S);have FA:CF B w ((wr.alloc (.cells #[.string s] 9)).drew):=(uh HF).trans (CF.of_below bA S);have aT:((wr.alloc (.cells #[.string s] 9)).drew).cell? ⟨wr.heap.size,0,none⟩=some (.string s):=Qi wr 9 (.string s) 0 _ rfl;have HTA:=ze (uh HT _ _ aT);have hx1:E.cells=#[E]:=by rcases f1 with rfl |⟨t,q,rfl⟩<;>rfl
   have hx2:F.cells=#[F]:=by rcases f2 with rfl |⟨t,q,rfl⟩<;>rfl
   unfold Value.cells at hx1 hx2;clear f1 f2;have I:Hid (∀ X:Wo,Below B w X->X.cell? ⟨ob1,0,none⟩=some (.map (some M))/\X.cell? ⟨ob2,0,none⟩=some (.map (some N))/\(Instr.lookup 172 (.map (some M)) (.string s) false).run prog X= .ok E X/\(Instr.lookup 172 (.map (some N)) (.string s) false).run prog X= .ok F X):=fun X hX=>⟨uh HC1 X hX,uh HC2 X hX,uh ab X hX,uh ad X hX⟩;have SD:=ze (uh I _ FD.1);have SA:=ze (uh I _ FA.1);clear FD FA aT d1 d2 bD;go_wp2_with fail;go_region_held3 (fun D=>D.cell? ⟨ob1,0,none⟩=some (.map (some M))/\D.cell? ⟨ob2,0,none⟩=some (.map (some N))/\(Instr.lookup 172 (.map (some M)) (.string s) false).run prog D= .ok E D/\(Instr.lookup 172 (.map (some N)) (.string s) false).run prog D= .ok F D)
    (first | exact uh S7 | exact uh S6 | exact uh SA | exact uh SD)
    (first
     |(
       have hb6:=J;go_simp;refine (uh G _ u0 x F6 O6 (uh HZ)).mono ?_;rintro e w7 ⟨r7,zs7,rfl,o7,z7,f7⟩;have S7:=ze (uh I w7 (F6.trans f7).1))
     |(
       go_simp;refine (uh HTA).mono ?_;rintro e w6 ⟨rfl,b6⟩;have J:Bw wr w6:=zi bA b6;have F6:CF B w w6:=(uh HF).trans (CF.of_below J S);have O6:ZQ w6 B u0 (ys++x):=Zd (uh HO) J;have S6:=ze (uh I w6 F6.1)))
   all_goals
    have O7:=ze o7;have Z7:=ze z7;have F7:=ze (F6.trans f7);have R7:=ze (OT.cf (uh HKR) ((CF.of_below J S).trans f7));clear hx1 hx2 o7 z7 f7 O6 F6 b6 J bA HTA G HT HO HZ HF ab ad y1 HKR S6 S7 SA SD I;go_wp2;go_roundw
   all_goals first
    | exact⟨k+1,zs7,by omega,by go_num,uh O7,uh Z7,uh F7,uh R7⟩
    |(simp[intOf];omega)
  ·have hk':k=d.length:=by omega
   subst hk';have HZ:=ze (uh H x hz);have HO:=ze ho;have HF:=ze L;clear ho hz L Q HX H A;go_wp2;go_ret;exact⟨_,x,rfl,uh HO,uh HZ,uh HF⟩
theorem ZQ.form{w:Wo}{B:Nat}{v:Value}{ys:List ZJ}(h:ZQ w B v ys):∃ a cap,v= .slice a ys.length cap/\(∀ (j:Nat) (hj:j<ys.length),∃ g,a=some ⟨g,0,none⟩/\g<w.heap.size/\∀ X:Wo,X.heap[g]?=w.heap[g]?->X.cell? ⟨g,j*3,none⟩=some (.string (zh ys[j].1))/\X.cell? ⟨g,j*3+1,none⟩=some ys[j].2.1/\X.cell? ⟨g,j*3+2,none⟩=some ys[j].2.2):=by
 rcases h.2 with ⟨o,s⟩ |⟨g,cap,k,o,D,p,x,z,d,A⟩
 ·exact⟨none,0,by rw[o,s],fun j hj=>by omega⟩
 ·refine⟨some ⟨g,0,none⟩,cap,o,fun j hj=>⟨g,rfl,(yC.1 p).1,fun X hX=>?_⟩⟩;have m:X.ownsRow B 63 3 (.slice (some ⟨g,0,none⟩) ys.length cap) ys.length (ys.flatMap QZ):=⟨h.1,.inr ⟨g,cap,k,rfl,D,hX.trans p,x,z,d,A⟩⟩;have q:∀ (l:List ZJ),(l.flatMap QZ).length=l.length*3:=by
   intro l;induction l with
   | nil=>rfl
   | cons y r ih=>rw[List.flatMap_cons,yh,ih,yp];simp[QZ];omega
  have b:∀ (l:List ZJ) (j:Nat) (hj:j<l.length) (i:Nat) (u:Value),(QZ l[j])[i]?=some u->(l.flatMap QZ)[j*3+i]?=some u:=by
   intro l;induction l with
   | nil=>intro j hj;simp at hj
   | cons y r ih=>
    intro j hj i u f;have d:(QZ y).length=3:=rfl
    cases j with
    | zero=>
     rw[List.flatMap_cons,Nat.zero_mul,Nat.zero_add,List.getElem?_append_left (by rw[d];exact (by have:=(List.getElem?_eq_some_iff.1 f).1;simpa [QZ]using this))];exact f
    | succ j=>
     rw[List.flatMap_cons,List.getElem?_append_right (by rw[d];omega),d,show (j+1)*3+i - 3=j*3+i by omega];exact ih j (by simpa using hj) i u f
  have n:∀ i u,(ys.flatMap QZ)[i]?=some u->X.cell? ⟨g,i,none⟩=some u:=fun i u f=>by
   have C:=World.ownsRow.cells m rfl i u f
   rwa [show ((⟨(⟨g,0,none⟩:Addr).block,0,none⟩:Addr).add i)=⟨g,i,none⟩ by simp[Addr.add];omega]at C
  exact⟨n _ _ (b ys j hj 0 _ rfl),n _ _ (b ys j hj 1 _ rfl),n _ _ (b ys j hj 2 _ rfl)⟩
theorem zdJ{B:Nat}(v:Value)(ys:List ZJ)(w:Wo)(h:ZQ w B v ys)(hl:ys.length<=1000000)(hf:∀ y∈ys,FO y.2.1/\FO y.2.2):
  Calls prog 31 #[v] w fun e w'=>∃ r,e= .returned r/\OT w' w.heap.size r (ys.map (·.1))/\Bw w w':=by
 obtain⟨i0,hi,W,X,Y⟩:=info_parts Vi;obtain⟨a,cap,rfl,hc⟩:=h.form;have HC:=ze hc;have T:=ze hf;clear h hc hf;go_in;go_wp2_with (at_make;refine wpList_make_own _ rfl _ _ 30 rfl w.heap.size 9 i0 (.string ByteArray.empty) 1 underlying30 hi W X .i64 .i64 _ ys.length rfl rfl rfl (by rw[Y];omega) (by unfold maxLen;omega) (ye _) ?_);intro w1 H s;have P:Hid (Bw w w1):=(yI _ _).grown s (ye _) (by intro k hk;cases hk);have Q:Hid (OT w1 w.heap.size _ []):=H;clear H s;go_wp2;go_loopw [3,11] (fun lv i wr=>∃ k:Nat,k<=ys.length/\i= .int .i64 k/\OT wr w.heap.size lv ((ys.take k).map (·.1))/\Bw w wr) (fun _ i _=>ys.length - (intOf i).toNat)
 case atStart=>exact⟨0,yu _,rfl,uh Q,uh P⟩
 case round=>
  obtain⟨k,hk,rfl,S,q⟩:=hrel;clear Q P;by_cases N:k<ys.length
  ·have hltI:(k:Int)<(ys.length:Int):=by omega
   obtain⟨g,rfl,hg,R⟩:=uh HC k N;obtain⟨c0,c1,c2⟩:=R wr (q.block g hg);obtain⟨f1,U⟩:=uh T ys[k] (yt N);have L:Hid ((ys.take (k+1)).map (·.1)=(ys.take k).map (·.1)++[ys[k].1]):=by
    show _=_
    rw[yz N,yx];rfl
   have M:((ys.take k).map (·.1)).length<=1000000:=by rw[yl,ym];omega
   have K:=ze S;have O:=ze q;have hbz:=q.size;clear R S q;generalize (ys.take k).map (·.1)=A at *;generalize ys[k]=y at *;obtain⟨x,v1,v2⟩:=y;simp only at c0 c1 c2 f1 U;rcases f1 with rfl |⟨D,C,rfl⟩
   ·rcases U with rfl |⟨z,u,rfl⟩
    ·have F:=Z0 wr (.cells #[.string (zh x),.nilIface,.nilIface] 63);have G:=Z0 (wr.alloc (.cells #[.string (zh x),.nilIface,.nilIface] 63)) (.cells #[.string (zh x)] 9);have o:=yH (wr.alloc (.cells #[.string (zh x),.nilIface,.nilIface] 63)) (.cells #[.string (zh x)] 9);have J:(wr.alloc (.cells #[.string (zh x),.nilIface,.nilIface] 63)).heap.size=wr.heap.size+1:=by simp
     rw[J]at o;have n:=zi F G;have m:=ze (Zd (uh K) n);have j:Hid (((wr.alloc (.cells #[.string (zh x),.nilIface,.nilIface] 63)).alloc (.cells #[.string (zh x)] 9)).cell? ⟨wr.heap.size+1,0,none⟩=some (.string (zh x))):=yG o 0;have d:=ze (zi (uh O) n);clear F G o J n;go_wp2_with (at_builtin;refine Gn rfl (.tmp 15) (.tmp 18) rfl (B:=w.heap.size) rfl (uh m) (t:=x) rfl (uh j) (uh d).size M ?_);generalize ((wr.alloc (.cells #[.string (zh x),.nilIface,.nilIface] 63)).alloc (.cells #[.string (zh x)] 9))=wC at *;intro Z w4 I E p;clear p;have f:=ze ((uh d).grown E (uh d).size (fun b q=>((uh K).lt b q).1));have l:=ze I;clear I E c0 c1 c2;go_wp2;go_roundw
     case rel=>exact⟨k+1,by omega,by go_num,by rw[uh L];exact uh l,uh f⟩
     case measure=>simp[intOf];omega
    ·have F:=Z0 wr (.cells #[.string (zh x),.nilIface,.iface z u] 63);have G:=Z0 (wr.alloc (.cells #[.string (zh x),.nilIface,.iface z u] 63)) (.cells #[.string (zh x)] 9);have o:=yH (wr.alloc (.cells #[.string (zh x),.nilIface,.iface z u] 63)) (.cells #[.string (zh x)] 9);have J:(wr.alloc (.cells #[.string (zh x),.nilIface,.iface z u] 63)).heap.size=wr.heap.size+1:=by simp
     rw[J]at o;have n:=zi F G;have m:=ze (Zd (uh K) n);have j:Hid (((wr.alloc (.cells #[.string (zh x),.nilIface,.iface z u] 63)).alloc (.cells #[.string (zh x)] 9)).cell? ⟨wr.heap.size+1,0,none⟩=some (.string (zh x))):=yG o 0;have d:=ze (zi (uh O) n);clear F G o J n;go_wp2_with (at_builtin;refine Gn rfl (.tmp 15) (.tmp 18) rfl (B:=w.heap.size) rfl (uh m) (t:=x) rfl (uh j) (uh d).size M ?_);generalize ((wr.alloc (.cells #[.string (zh x),.nilIface,.iface z u] 63)).alloc (.cells #[.string (zh x)] 9))=wC at *;intro Z w4 I E p;clear p;have f:=ze ((uh d).grown E (uh d).size (fun b q=>((uh K).lt b q).1));have l:=ze I;clear I E c0 c1 c2;go_wp2;go_roundw
     case rel=>exact⟨k+1,by omega,by go_num,by rw[uh L];exact uh l,uh f⟩
     case measure=>simp[intOf];omega
   ·rcases U with rfl |⟨z,u,rfl⟩
    ·have F:=Z0 wr (.cells #[.string (zh x),.iface D C,.nilIface] 63);have G:=Z0 (wr.alloc (.cells #[.string (zh x),.iface D C,.nilIface] 63)) (.cells #[.string (zh x)] 9);have o:=yH (wr.alloc (.cells #[.string (zh x),.iface D C,.nilIface] 63)) (.cells #[.string (zh x)] 9);have J:(wr.alloc (.cells #[.string (zh x),.iface D C,.nilIface] 63)).heap.size=wr.heap.size+1:=by simp
     rw[J]at o;have n:=zi F G;have m:=ze (Zd (uh K) n);have j:Hid (((wr.alloc (.cells #[.string (zh x),.iface D C,.nilIface] 63)).alloc (.cells #[.string (zh x)] 9)).cell? ⟨wr.heap.size+1,0,none⟩=some (.string (zh x))):=yG o 0;have d:=ze (zi (uh O) n);clear F G o J n;go_wp2_with (at_builtin;refine Gn rfl (.tmp 15) (.tmp 18) rfl (B:=w.heap.size) rfl (uh m) (t:=x) rfl (uh j) (uh d).size M ?_);generalize ((wr.alloc (.cells #[.string (zh x),.iface D C,.nilIface] 63)).alloc (.cells #[.string (zh x)] 9))=wC at *;intro Z w4 I E p;clear p;have f:=ze ((uh d).grown E (uh d).size (fun b q=>((uh K).lt b q).1));have l:=ze I;clear I E c0 c1 c2;go_wp2;go_roundw
     case rel=>exact⟨k+1,by omega,by go_num,by rw[uh L];exact uh l,uh f⟩
     case measure=>simp[intOf];omega
    ·have F:=Z0 wr (.cells #[.string (zh x),.iface D C,.iface z u] 63);have G:=Z0 (wr.alloc (.cells #[.string (zh x),.iface D C,.iface z u] 63)) (.cells #[.string (zh x)] 9);have o:=yH (wr.alloc (.cells #[.string (zh x),.iface D C,.iface z u] 63)) (.cells #[.string (zh x)] 9);have J:(wr.alloc (.cells #[.string (zh x),.iface D C,.iface z u] 63)).heap.size=wr.heap.size+1:=by simp
     rw[J]at o;have n:=zi F G;have m:=ze (Zd (uh K) n);have j:Hid (((wr.alloc (.cells #[.string (zh x),.iface D C,.iface z u] 63)).alloc (.cells #[.string (zh x)] 9)).cell? ⟨wr.heap.size+1,0,none⟩=some (.string (zh x))):=yG o 0;have d:=ze (zi (uh O) n);clear F G o J n;go_wp2_with (at_builtin;refine Gn rfl (.tmp 15) (.tmp 18) rfl (B:=w.heap.size) rfl (uh m) (t:=x) rfl (uh j) (uh d).size M ?_);generalize ((wr.alloc (.cells #[.string (zh x),.iface D C,.iface z u] 63)).alloc (.cells #[.string (zh x)] 9))=wC at *;intro Z w4 I E p;clear p;have f:=ze ((uh d).grown E (uh d).size (fun b q=>((uh K).lt b q).1));have l:=ze I;clear I E c0 c1 c2;go_wp2;go_roundw
     case rel=>exact⟨k+1,by omega,by go_num,by rw[uh L];exact uh l,uh f⟩
     case measure=>simp[intOf];omega
  ·have V:k=ys.length:=by omega
   subst V;rw[List.take_length]at S;have K:=ze S;have O:=ze q;clear S q;go_wp2;go_ret;exact⟨_,rfl,uh K,uh O⟩
end Go.Proofs.YtpaecnbdoljafaaGreatDoor
