import Derived.Test.YtekpghcckdjnhaaGreatDoorBz40
import Derived.Test.YtekpghcckdjnhaaGreatDoorBz43
import Derived.Test.YtekpghcckdjnhaaGreatDoorBz38
set_option maxRecDepth 100000
set_option maxHeartbeats 8000000
namespace Go.Proofs.YtekpghcckdjnhaaGreatDoor
open Go.RowKit Go.Proofs.Tryz
def J4(v:JV)(ms:List zw):(Int×Int)⊕JV:=if 0<=ZT ms then .inl (2,ZT ms)else match Jb v (ms.map qu) 0 with
 | .inl ci=>.inl ((ci.1:Int),(ci.2:Int))
 | .inr r=>.inr r
theorem zfb{v:JV}{ms:List zw}(h:0<=ZT ms):J4 v ms= .inl (2,ZT ms):=by unfold J4;rw[yg h]
theorem Cg{v:JV}{ms:List zw}{c i:Nat}(h:¬ 0<=ZT ms)(hr:Jb v (ms.map qu) 0= .inl (c,i)):J4 v ms= .inl ((c:Int),(i:Int)):=by unfold J4;rw[yf h,hr]
theorem zfc{v r:JV}{ms:List zw}(h:¬ 0<=ZT ms)(hr:Jb v (ms.map qu) 0= .inr r):J4 v ms= .inr r:=by unfold J4;rw[yf h,hr]
def Ch(w:Wo)(o:(Int×Int)⊕JV)(e:Ending)(w':Wo):Prop:=Bw w w' /\
 ((∃ c i t p,o= .inl (c,i)/\c≠0/\e= .returned (.tuple #[.nilIface,.iface t p])/\KF w' i c (.iface t p))∨∃ u t p,o= .inr u/\Ja u/\e= .returned (.tuple #[.iface t p,.nilIface])/\zO w' u (.iface t p))
theorem zfd{w:Wo}{i c:Int}{t:TypeId}{p:Value}(h:Uz w c (.iface t p)):KF (w.alloc (.cells #[.int .i64 i,.iface t p] 169)) i c (.iface 164 (.pointer (some ⟨w.heap.size,0,none⟩))):=
 ⟨w.heap.size,_,rfl,yG w _,h.next (zu _ _)⟩
theorem zfe(hEq:KV)(hMv:FT){w w1:Wo}{la:Option Addr}{lc:Nat}{ms:List zw}{qs:List VT}(hL:Wz w1 w.heap.size (WA w.heap.size w1 (.slice la qs.length lc)) (.slice la qs.length lc) ms qs)(hin:VY ms)(hok:∀ m∈ms,Z1 m=true){k:Nat}(hk:k<ms.length){wr:Wo}(hb:Bw w1 wr)(hw:Qh wr){u:JV}(hu:Ja u){ty:TypeId}{p:Value}(hr:zO wr u (.iface ty p)):
  ∃ lg g fid,la=some ⟨lg,0,none⟩/\wr.cell? ⟨lg,k,none⟩=some (.pointer (some ⟨g,0,none⟩))/\wr.cell? ⟨g,6,none⟩=some (.func (Fn.func fid) #[] #[])/\(∀ (w:Wo),Sem.run prog (callFunc fid #[.iface ty p,.pointer (some ⟨g,0,none⟩)]) w= .ok (.enter fid #[.iface ty p,.pointer (some ⟨g,0,none⟩)]) w) /\
   Calls prog fid #[.iface ty p,.pointer (some ⟨g,0,none⟩)] wr (Zg wr (ZK u (qu ms[k]))):=by
 have s:=hL.len;have q:=ZB hL.row hb;obtain⟨lg,rfl⟩:∃ g,la=some ⟨g,0,none⟩:=by
  rcases q.2 with ⟨_,N⟩ |⟨g,y,A,f,_⟩
  ·omega
  ·injection f with f _ _;exact⟨g,f⟩
 have d:k<qs.length:=by omega
 have z:wr.cell? ⟨lg,k,none⟩=some (Fk qs[k]):=by
  rw[q.cellAt k (by simpa using d),List.getElem?_map,yx d];rfl
 have n:=hL.ops k ms[k] qs[k] (yx hk) (yx d);have a:GF wr (WA w.heap.size w1 (.slice (some ⟨lg,0,none⟩) qs.length lc)) ms[k] qs[k]:=n.keep (fun j hj=>hb.block j hj.2.1) (fun _ h=>h);obtain⟨v,x,O⟩:=hin ms[k] (yr hk);obtain⟨F,G,o⟩:=DG (hok ms[k] (yr hk));obtain⟨B,M⟩:=Nl ms[k];obtain⟨pa,J,P,pc,L,K,R,Q,C⟩:=a.toM (fun j hj=>yE hj.2.1 hb.size) v x (Yq ms[k]) (fun f=>by
  have r:=(o f).1;rw[(a.val f).1]at r;injection r with r;exact r.symm)
 obtain⟨H,_⟩:=FS ms[k].path v;obtain⟨I,_⟩:=FS ms[k].src x;have E:=hu.len;obtain⟨fid,D,l,b⟩:=zeA hEq hMv u (qu ms[k]) wr ty p F G hw hu.t (by omega) B (by show (ct (Yq ms[k])).length<=_;omega) hr C I H (fun m hm=>by have:=Gk hu.t hm;omega);refine⟨lg,qs[k].g,fid,rfl,z,?_,fun w=>l _ w,b⟩;have i:=a.blk;unfold GB at i;rw[show wr.cell? ⟨qs[k].g,6,none⟩=some (Y7 ms[k].kind)from yF i 6];exact congrArg some D
theorem zff(hEq:KV)(hMv:FT)(v:JV)(hv:Ja v)(x:Value)(ms:List zw)(bl:List Nat)(w:Wo)(ty:TypeId)(p:Value)(hrow:zk Zh w x ms bl)(hs:Xa ms)(hw:Qh w)(hr:zO w v (.iface ty p)):
  Calls prog 104 #[.iface ty p,x] w (Ch w (J4 v ms)):=by
 have z:=zb (Te x ms bl w hrow hs hw);obtain⟨xa,xc,rfl,h1,hxa⟩:=hrow.form;clear hrow h1 hxa;by_cases b:0<=ZT ms
 ·have K:=zb (zfb (v:=v) b);have a:=zb b;clear b hr hw hs;go_in;go_wp2_with fail;refine (uh z).mono ?_;rintro e T ⟨L,l,-⟩;obtain⟨t,q,rfl,he⟩:=l (uh a);have HE:Hid (Ch w (J4 v ms) (.returned (.tuple #[.nilIface,.iface t q])) T):=⟨L,.inl ⟨2,ZT ms,t,q,uh K,by decide,rfl,he⟩⟩;clear z l L he;go_wp2;go_ret2;exact uh HE
 ·obtain⟨hl100,E⟩:=DH b;have N:=hs.1;have a:=zb b;have U:=zb hr;have C:Hid (VE v (ms.map qu) 0 v):=⟨rfl,hv⟩;clear b hr;go_in;go_wp2_with fail;refine (uh z).mono ?_;rintro e T ⟨L,-,hg⟩;obtain⟨lv,qs,rfl,hL⟩:=hg (by have:=uh a;omega);obtain⟨la,lc,rfl⟩:∃ la lc,lv= .slice la qs.length lc:=by
   rcases hL.row.2 with ⟨hv,hn⟩ |⟨g,cap,cur,hv,_⟩
   ·exact⟨none,0,by rw[hv,hn]⟩
   ·exact⟨some ⟨g,0,none⟩,cap,hv⟩
  have F:=hL.len;have I:Hid (∀ (k:Nat) (S:k<ms.length) (wr:Wo),Bw T wr->∀ (u:JV),Ja u->∀ ty p,zO wr u (.iface ty p)->∃ lg g j,la=some ⟨lg,0,none⟩/\wr.cell? ⟨lg,k,none⟩=some (.pointer (some ⟨g,0,none⟩))/\wr.cell? ⟨g,6,none⟩=some (.func (Fn.func j) #[] #[])/\(∀ (w:Wo),Sem.run prog (callFunc j #[.iface ty p,.pointer (some ⟨g,0,none⟩)]) w= .ok (.enter j #[.iface ty p,.pointer (some ⟨g,0,none⟩)]) w) /\
    Calls prog j #[.iface ty p,.pointer (some ⟨g,0,none⟩)] wr (Zg wr (ZK u (qu ms[k])))):=fun k S wr l u hu ty p hr=>zfe hEq hMv hL N E S l (hw.up (zh L l)) hu hr
  have y:Hid (∀ wr,Bw w wr->Jd wr.heap.size wr):=fun wr hx=>(hw.up hx).pow;have s:Hid (∀ (k:Nat) (S:k<ms.length) (u r:JV),Ja u->ZK u (qu ms[k])= .inr r->zx r/\(ct r).length<=10000000):=fun k S u r hu n=>by
   obtain⟨g1,g2⟩:=Nl ms[k];obtain⟨i1,i2,i3⟩:=N ms[k] (yr S);have hdl:=DI hu.t n (FS ms[k].path i1).2;have hul:=hu.len;refine⟨Db hu.t g1 n,?_⟩;have:(ct (qu ms[k]).val).length<=20000:=g2;omega
  have D:=zb ((uh U).next L);have o:=zb L;rw[F];clear z hg hL L hw hs N E U hEq hMv F hv;go_wp2_with fail;go_loopw [0,7,20] (fun rv ev iv wr=>∃ (k:Nat) (u:JV) (ty:TypeId) (p:Value),k<=ms.length/\iv= .int .i64 (k:Int)/\ev= .nilIface/\rv= .iface ty p/\VE v (ms.map qu) k u/\zO wr u (.iface ty p)/\Bw T wr) (fun _ _ iv _=>ms.length - (intOf iv).toNat)
  case atStart=>exact⟨0,v,ty,p,yt _,rfl,rfl,rfl,uh C,uh D,yH _ _⟩
  case round=>
   obtain⟨k,u,ty,p,S,rfl,rfl,rfl,d,B,l⟩:=hrel;by_cases A:k<ms.length
   ·obtain⟨lg,g,j,rfl,q1,q2,hent,m⟩:=uh I k A wr l u d.2 ty p B;have HC:=zb m;have Q:=zb l;have Y:=zb d;have hltI:(k:Int)<(ms.length:Int):=by omega
    have O:k<(ms.map qu).length:=by simpa using A
    have W:(ms.map qu)[k]=qu ms[k]:=by simp
    clear m l d B C D I;go_wp2_with fail;refine (uh HC).mono ?_;rintro e w2 ⟨Z,⟨c,ev,n,rfl,hf⟩ |⟨r,t',p',n,rfl,P⟩⟩
    ·have K:=zb (Cg (by have:=uh a;omega) (DK (uh Y) O (by rw[W];exact n)));have HF:=zb hf;have HC0:Hid ((c:Int)≠0):=by have:=DN n;show (c:Int)≠0;omega
     obtain⟨fb,rfl,-⟩:=hf;have f:=zb (zh (uh Q) Z);clear HC Z n Q s y q1 q2;go_wp2;go_ret2;exact⟨zh (zh (uh o) (uh f)) (zu _ _),.inl ⟨_,_,_,_,uh K,uh HC0,rfl,zfd (uh HF)⟩⟩
    ·obtain⟨gr,lr⟩:=uh s k A u r (uh Y).2 n;have M:=zh (uh Q) Z;have i:=zb (zcY r gr.rd gr.tw w2 _ t' p' P (fun _ h=>h) (uh y w2 (zh (uh o) M)) lr);have X:Hid (ZK u (ms.map qu)[k]= .inr r):=by rw[W];exact n
     have H:=zb gr;have J:=zb P;have f:=zb M;clear HC Z n Q M gr lr P q1 q2
     cases hlim:Yo r with
     | true=>
      have V:decide (zL r<=100/\zt r<=3000/\(ct r).length<=20000)=true:=yj ((U8 r).1 hlim);rw[V]at i;have HNX:=zb (DJ (uh Y) O (uh X) (uh H) hlim);clear V hlim X H;go_wp2_with fail;refine (uh i).mono ?_;rintro e w3 ⟨rfl,R⟩;have HR3:=zb ((uh J).next R);have G:=zb (zh (uh f) R);clear i R J f;go_wp2;go_roundw
      case rel=>exact⟨k+1,r,t',p',by omega,by go_num,rfl,rfl,uh HNX,uh HR3,uh G⟩
      case measure=>simp[intOf];omega
     | false=>
      have V:decide (zL r<=100/\zt r<=3000/\(ct r).length<=20000)=false:=yk fun h=>by rw[(U8 r).2 h]at hlim;cases hlim
      rw[V]at i;have K:=zb (Cg (by have:=uh a;omega) (Nk (uh Y) O (uh X) hlim));clear V hlim X H J s y;go_wp2_with fail;refine (uh i).mono ?_;rintro e w3 ⟨rfl,R⟩;have G:=zb (zh (uh f) R);clear i R f;go_wp2;go_ret2;exact⟨zh (zh (zh (uh o) (uh G)) (zu _ _)) (zu _ _),.inl ⟨_,_,_,_,uh K,by decide,rfl,PF _ _ _⟩⟩
   ·have K:=zb (zfc (by have:=uh a;omega) (DM d (by simpa using A)));have HT:=zb B;have HGU:=zb d.2;have Q:=zb l;clear d B l s y I;go_wp2;go_ret2;exact⟨zh (uh o) (uh Q),.inr ⟨u,ty,p,uh K,uh HGU,rfl,uh HT⟩⟩
theorem zfg:KV:=fun a b w ta tb pa pb ga gb la lb ha hb=>zeG a b ga gb la lb w ta tb pa pb ha hb
theorem zfh{s:Bs}{ms:List zw}{v:JV}{c i:Int}(h:ZI s= .inr v)(ho:J4 v ms= .inl (c,i)):qk s ms=(⟨#[]⟩,c,i):=by
 unfold J4 at ho;unfold qk;rw[h];simp only;by_cases a:0<=ZT ms
 ·rw[yg a]at ho ⊢;injection ho with ho;injection ho with h1 h2;rw[h2,← h1]
 ·rw[yf a]at ho ⊢
  cases hr:Jb v (ms.map qu) 0 with
  | inl ci=>
   rw[hr]at ho;injection ho with ho;injection ho with h1 h2;simp only;rw[← h1,← h2]
  | inr r=>rw[hr]at ho;cases ho
theorem zfi{s:Bs}{ms:List zw}{v r:JV}(h:ZI s= .inr v)(ho:J4 v ms= .inr r):qk s ms=(ze (ct r),0,0):=by
 unfold J4 at ho;unfold qk;rw[h];simp only;by_cases a:0<=ZT ms
 ·rw[yg a]at ho;cases ho
 ·rw[yf a]at ho ⊢
  cases hr:Jb v (ms.map qu) 0 with
  | inl ci=>rw[hr]at ho;cases ho
  | inr r'=>
   rw[hr]at ho;injection ho with ho;simp only;rw[ho]
theorem zfj{w:Wo}{vs:List Value}{x:zw}{bl:List Nat}(h:Zh.E w vs x bl):∀ u∈vs,u.oneCell'=true:=by
 obtain⟨rfl,_⟩:=h;intro u a;simp at a;rcases a with rfl | rfl | rfl | rfl<;>rfl
theorem zfk:(prog.info? Zh.T).map (fun i=>(i.zero,i.size,i.bytes))=some (some (.agg #[.int .i64 0,.string ByteArray.empty,.string ByteArray.empty,.string ByteArray.empty]),Zh.wd,56):=Nn
theorem zfl{w:Wo}{v:Value}{xs:List zw}{B:Nat}(h:zk Zh w v xs v.ownBlock.toList)(hB:∀ g,v.ownBlock=some g->B<=g):Z3 w B v xs:=by
 obtain⟨d,m,l,f,n⟩:=h;have e:d.flatMap (·.1)=xs.flatMap Yr:=by
  have:d.map (·.1)=xs.map Yr:=List.ext_getElem (by simp[m]) fun j h1 h2=>by
   simp only[List.getElem_map];simp only[yl]at h1 h2;exact (l j d[j] xs[j] (yx h1) (yx h2)).1
  rw[List.flatMap_def,List.flatMap_def,this]
 unfold Z3;rw[← e];refine⟨f.1,?_⟩;rcases f.2 with k |⟨g,a,b,i,_,r⟩
 ·exact .inl k
 ·exact .inr ⟨g,a,b,i,hB g (by rw[i];rfl),r⟩
theorem zfm(v:Value)(xs:List zw)(B:Nat)(w:Wo)(h:Z3 w B v xs)(hm:xs.length<=1048577):
  Calls prog 58 #[v] w fun e w'=>∃ v',e= .returned v'/\Z3 w' w.heap.size v' xs/\Bw w w':=by
 have H:Hid (zk Zh w v xs (v.ownBlock.toList++[])):=by show zk _ _ _ _ _;rw[yS];exact h.orow.1
 clear h;go_in;go_wp2_with (at_builtin;refine Sw (e:=Zh) zfj underlying26 zfk rfl (by decide) (by decide) rfl (.const (.slice none 0 0)) (.tmp 3) rfl rfl rfl (uh H) (by omega) ?_);intro v' w' g d f;have i:=zb g;have a:=zb d;have b:=zb f;clear g d f H;go_wp2;go_ret;exact⟨_,rfl,zfl (uh i) (uh a),uh b⟩
def FV(rt:Value):Prop:=rt= .nilIface∨∃ t p,rt= .iface t p
theorem zfn(v:Value)(xs:List zw)(B:Nat)(b t:Int)(d:Bs)(rt:Value)(w:Wo)(h:Z3 w B v xs)(hm:xs.length<=1048577)(hr:FV rt):
  Calls prog 28 #[.agg #[v,.int .i64 b,.string d,.int .i64 t,rt]] w fun e w'=>∃ v',e= .returned (.agg #[v',.int .i64 b,.string d,.int .i64 t])/\Z3 w' w.heap.size v' xs/\Bw w w':=by
 obtain⟨a,i,rfl⟩:=YS h;have r:=zb h;clear h;have f:=VF w (.cells #[.slice a xs.length i,.int .i64 b,.string d,.int .i64 t,rt] 68) (.cells #[.slice none 0 0,.int .i64 0,.string ⟨#[]⟩,.int .i64 0] 28) (.cells #[.slice a xs.length i,.int .i64 b,.string d,.int .i64 t] 28);have q:=zb f;clear f;rcases hr with rfl |⟨I,p,rfl⟩
 all_goals (
  go_in;go_wp2_with fail;generalize ((w.alloc _).alloc _).alloc _=y at *;have f:=uh q;refine (zfm _ xs B y (ZB (uh r) f.bel) hm).mono ?_;rintro e x ⟨v',rfl,o,g⟩;obtain⟨z,s,rfl⟩:=YS o;have H:=f.size;have u:=g.size;have j:=(g.block (w.heap.size+1) (by omega)).trans f.k1;have n:=(g.block (w.heap.size+1+1) (by omega)).trans f.k2;obtain⟨c0,c1,c2,c3⟩:=Zt.of j;obtain⟨A,C,D,E⟩:=Zt.of n;have F:=yI j;have G:=yI n;have l:=zb j;have m:=zb o;have k:=zb (zh f.bel g);clear f q g o j n r;go_wp2;refine bodyPost_ret (results_cell_row rfl _ _ (w.heap.size+1) 28 #[_,_,_,_] (0,0) _ rfl (qV (w:=putN x (w.heap.size+1+1) 0 [_]) ((ZO (by omega) _ _).trans (uh l)) [_,_,_,_] rfl) underlying28 rfl (by kernel_rfl)) rfl ?_;exact⟨_,rfl,qT (Kx (Kx (uh m) (by omega) [_] 0) (by omega) [_,_,_,_] 0) (by omega),ZL (ZL (uh k) (by omega) [_] 0) (by omega) [_,_,_,_] 0⟩)
def Ci(b:Bg)(tr:Int)(B:Nat)(w:Wo)(e:Ending)(w':Wo):Prop:=∃ v tr' rt,e= .returned (.tuple #[.agg #[v,.int .i64 b.base,.string b.doc,.int .i64 tr',rt],.agg #[.int .i64 b.kind,.int .i64 b.code,.int .i64 b.pos,.int .i64 0]])/\tr'=(if b.kind=1 then tr else 0)/\Z3 w' B v b.ops/\FV rt/\Bw w w'
structure DB(b:Nat)(w:Wo):Prop where
 k1:w.heap[b]?=some (.cells #[.slice none 0 0,.int .i64 0,.string ⟨#[]⟩,.int .i64 0,.nilIface] 68 (0,0))
 k2:w.heap[b+1]?=some (.cells #[.int .i64 0,.int .i64 0,.int .i64 0,.int .i64 0] 30 (0,0))
theorem DB.next{b:Nat}{w w':Wo}(h:DB b w)(hb:Bw w w'):DB b w':=
 ⟨(hb.block b (yB.1 h.k1).1).trans h.k1,(hb.block (b+1) (yB.1 h.k2).1).trans h.k2⟩
def QC(g:Nat)(a b c d e:Value)(w:Wo):Prop:=w.cell? ⟨g,0,none⟩=some a/\w.cell? ⟨g,1,none⟩=some b/\w.cell? ⟨g,2,none⟩=some c/\w.cell? ⟨g,3,none⟩=some d/\w.cell? ⟨g,4,none⟩=some e
theorem QC.of{g:Nat}{a b c d e:Value}{w:Wo}{t:TypeId}(h:w.heap[g]?=some (.cells #[a,b,c,d,e] t (0,0))):QC g a b c d e w:=⟨yF h 0,yF h 1,yF h 2,yF h 3,yF h 4⟩
theorem zfo{s:Bs}{ms:List zw}{v:JV}(h:ZI s= .inr v):(∀ c i,J4 v ms= .inl (c,i)->qk s ms=(⟨#[]⟩,c,i))/\(∀ r,J4 v ms= .inr r->qk s ms=(ze (ct r),0,0)):=
 ⟨fun _ _=>zfh h,fun _=>zfi h⟩
theorem zfp (hb:Nat) (no:Int) (doc:Bs) (q nx:Value) (t:TypeId) (p:Value) (jv:JV) (v:Value) (ms:List zw) (B:Nat) (tr:Int) (w:Wo) (hk:w.heap[hb]?=some (.cells #[.int .i64 no,.string doc,q,.iface t p,nx] 109 (0,0)))
  (hr:ZI doc= .inr jv) (hrep:zO w jv (.iface t p)) (ho:Z3 w B v ms) (hin:Xa ms) (hw:Qh w) (hg:YD w):
  Calls prog 57 #[.pointer (some ⟨hb,0,none⟩),v,.int .i64 tr] w (Ci (QL no (qk doc ms) ms) tr B w):=by
 obtain⟨a,n,rfl⟩:=YS ho;have M:=(yB.1 hk).1;have F:=Y8 w (.cells #[.slice none 0 0,.int .i64 0,.string ⟨#[]⟩,.int .i64 0,.nilIface] 68) (.cells #[.int .i64 0,.int .i64 0,.int .i64 0,.int .i64 0] 30);have V:DB w.heap.size ((w.alloc (.cells #[.slice none 0 0,.int .i64 0,.string ⟨#[]⟩,.int .i64 0,.nilIface] 68)).alloc (.cells #[.int .i64 0,.int .i64 0,.int .i64 0,.int .i64 0] 30)):=⟨F.k0,F.k1⟩;have kA:=(F.bel.block hb M).trans hk;have c3:((w.alloc (.cells #[.slice none 0 0,.int .i64 0,.string ⟨#[]⟩,.int .i64 0,.nilIface] 68)).alloc (.cells #[.int .i64 0,.int .i64 0,.int .i64 0,.int .i64 0] 30)).cell? ⟨hb,3,none⟩=some (.iface t p):=yF kA 3;have G:Hid (Calls _ _ _ ((w.alloc (.cells #[.slice none 0 0,.int .i64 0,.string ⟨#[]⟩,.int .i64 0,.nilIface] 68)).alloc (.cells #[.int .i64 0,.int .i64 0,.int .i64 0,.int .i64 0] 30)) _):=zff zfg zeL jv (Ja.of hr) _ ms _ _ t p (ho.orow.1.below F.bel) hin (hw.up F.bel) (hrep.next F.bel);have Y:Hid (∀ wx,Bw w wx->Qh wx/\YD wx/\Z3 wx B (.slice a ms.length n) ms):=fun wx hx=>⟨hw.up hx,hg.up hx,ZB ho hx⟩;have HK:Hid (∀ wx,Bw w wx->wx.heap[hb]?=some (.cells #[.int .i64 no,.string doc,q,.iface t p,nx] 109 (0,0))):=fun wx hx=>(hx.block hb M).trans hk;have HA:=zb F;have S:Hid (∀ b,(Value.slice a ms.length n).ownBlock=some b->b<w.heap.size):=fun b hb=>(ho.lt b hb).2;have z:=zb V;have A:=zb (zfo (ms:=ms) hr);clear F kA hk hr hrep ho hin hw hg V M;go_in;go_wp2_with fail;generalize (w.alloc _).alloc _=wA at *;have hsz:=(uh HA).size;refine (uh G).mono ?_;rintro e w2 ⟨N,⟨c,i,t2,p2,x,hc,rfl,he⟩ |⟨u,t2,p2,x,hu,rfl,W⟩⟩
 ·have m:=zh (uh HA).bel N;have R:=zb (ze7 i c t2 p2 w2 he (uh Y w2 m).2.1);have Z:=zb ((uh A).1 c i x);have s:=zb ((uh z).next N);have o:=zb m;have tc:(c !=0)=true:=by simpa using hc
  have Q:=zb hc;clear G N m x hc he z c3 A;go_wp2_with fail;refine (uh R).mono ?_;rintro e f ⟨rfl,E⟩;have d:=zb ((uh s).next E);have l:=zb (zh (uh o) E);obtain⟨c0,c1,c2,c3,c4⟩:=QC.of (uh d).k1;obtain⟨d0,d1,d2,d3⟩:=Zt.of (uh d).k2;have f1:=yI (uh d).k1;have f2:=yI (uh d).k2;clear R E o s;go_wp2;refine bodyPost_ret (Pw rfl _ [_,_,_,_,_] [_,_,_,_] rfl rfl (uh d).k1 (uh d).k2 (by omega) rfl rfl rfl underlying68 rfl (by kernel_rfl) underlying30 rfl (by kernel_rfl)) rfl ?_;rw[uh Z];unfold QL;rw[yf (uh Q)];exact⟨_,_,_,rfl,rfl,Yz _ _,.inl rfl,ZL (ZL (uh l) (by omega) [_,_,_,_,_] 0) (by omega) [_,_,_,_] 0⟩
 ·have m:=zh (uh HA).bel N;have R:=zb (ze6 w2);have Z:=zb ((uh A).2 u x);have s:=zb ((uh z).next N);have o:=zb m;have X:=zb hu;have HT:=zb W;clear G N m x hu W z c3 A;go_wp2_with fail;refine (uh R).mono ?_;rintro e f ⟨rfl,E⟩;have C:=zh (uh o) E;have hul:=(uh X).len;have Q:Hid (∀ wx,Bw f wx->Calls prog 100 #[.iface t2 p2] wx (Rb (.string (ze (ct u))) wx)):=fun wx hx=>Nt u (uh X).ok (uh X).tw t2 p2 wx _ (((uh HT).next E).next hx) (fun _ h=>h) (uh Y wx (zh C hx)).1.pow (by omega);have d:=zb ((uh s).next E);have l:=zb C;have c0:f.cell? ⟨hb,0,none⟩=some (.int .i64 no):=yF (uh HK f C) 0;clear R E C o X HT hul s;have D:hb<f.heap.size:=yJ _ _ c0;have kP:=yG f (.cells #[.slice none 0 0,.int .i64 0,.string ⟨#[]⟩,.int .i64 0] 28);have T:Hid (Bw f (f.alloc (.cells #[.slice none 0 0,.int .i64 0,.string ⟨#[]⟩,.int .i64 0] 28)).drew):=zh (zu f _) (yH _ _).drew;have zP:(f.alloc (.cells #[.slice none 0 0,.int .i64 0,.string ⟨#[]⟩,.int .i64 0] 28)).drew.heap.size=f.heap.size+1:=by show (f.alloc _).heap.size=_;simp
  have J:Hid ((f.alloc (.cells #[.slice none 0 0,.int .i64 0,.string ⟨#[]⟩,.int .i64 0] 28)).drew.heap[f.heap.size]?=some (.cells #[.slice none 0 0,.int .i64 0,.string ⟨#[]⟩,.int .i64 0] 28 (0,0))):=kP;have K:=zb zP;clear kP zP;have H:=zb (uh Q _ (uh T));have bd:Bw f f.drew:=(yH _ _).drew;have I:=zb (uh Q f.drew bd);clear Q bd;have U:(f.alloc (.cells #[.slice none 0 0,.int .i64 0,.string ⟨#[]⟩,.int .i64 0] 28)).drew.cell? ⟨hb,0,none⟩=some (.int .i64 no):=((uh T).cell (p:=⟨hb,0,none⟩) D).trans c0;go_wp2_with fail;go_region_law (first
   |(
     go_simp;refine (uh H).mono ?_;rintro e P ⟨rfl,y⟩;have j:=zh (uh T) y;have e0:=(j.cell (p:=⟨hb,0,none⟩) D).trans c0;have kM:=(y.block f.heap.size (by have:=uh K;omega)).trans (uh J);obtain⟨m0,m1,m2,m3⟩:=Zt.of kM;have fM:=yI kM)
   |(
     go_simp;refine (uh I).mono ?_;rintro e P ⟨rfl,y⟩;have j:Bw f P:=⟨y.os,y.tape,y.output,y.size,y.block⟩;have e0:=(j.cell (p:=⟨hb,0,none⟩) D).trans c0;have e1:(P.alloc (.cells #[.slice none 0 0,.int .i64 0,.string ⟨#[]⟩,.int .i64 0] 28)).cell? ⟨hb,0,none⟩=some (.int .i64 no):=((zu P _).cell (p:=⟨hb,0,none⟩) (yE D j.size)).trans e0;have kN:=trivial))
  all_goals first
  |(
    have HN:=zb kN;have hwM:w.heap.size+1<f.heap.size:=(yB.1 (uh d).k2).1;have hN:=zu P (.cells #[.slice a ms.length n,.int .i64 no,.string (ze (ct u)),.int .i64 tr] 28);have k:=zb (((uh d).next j).next hN);have r:=zb (zh (zh (uh l) j) hN);obtain⟨c0,c1,c2,c3,c4⟩:=QC.of (uh k).k1;obtain⟨d0,d1,d2,d3⟩:=Zt.of (uh k).k2;have f1:=yI (uh k).k1;have f2:=yI (uh k).k2;have HO:=zb (uh Y _ (uh r)).2.2;clear H I y j e0 U e1 d l T J K hN kN HN;go_wp2;refine bodyPost_ret (Pw rfl _ [_,_,_,_,_] [_,_,_,_] rfl rfl (uh k).k1 (uh k).k2 (by omega) rfl rfl rfl underlying68 rfl (by kernel_rfl) underlying30 rfl (by kernel_rfl)) rfl ?_;rw[uh Z];unfold QL;rw[yg rfl];have O:∀ g,w.heap.size<=g->∀ b,(Value.slice a ms.length n).ownBlock=some b->b<g:=fun g hg b hb=>by have:=uh S b hb;omega
    exact⟨_,_,_,rfl,rfl,Ky (Ky (uh HO) (O _ (by omega)) [_,_,_,_,_] 0) (O _ (by omega)) [_,_,_,_] 0,.inr ⟨_,_,rfl⟩,ZL (ZL (uh r) (by omega) [_,_,_,_,_] 0) (by omega) [_,_,_,_] 0⟩)
  |(
    have hwM:w.heap.size+1<f.heap.size:=(yB.1 (uh d).k2).1;have r:=zb (zh (uh l) j);have L:=(uh d).next j;have k:Hid (DB w.heap.size (putN P f.heap.size 0 [.slice a ms.length n,.int .i64 no,.string (ze (ct u)),.int .i64 tr])):=⟨(ZO (by omega) _ _).trans L.k1,(ZO (by omega) _ _).trans L.k2⟩;obtain⟨c0,c1,c2,c3,c4⟩:=QC.of L.k1;obtain⟨d0,d1,d2,d3⟩:=Zt.of L.k2;have f1:=yI L.k1;have f2:=yI L.k2;have HO:=zb (uh Y _ (uh r)).2.2;clear H I y j e0 U d l kM L T J K;go_wp2;refine bodyPost_ret (Pw rfl _ [_,_,_,_,_] [_,_,_,_] rfl rfl (uh k).k1 (uh k).k2 (by omega) rfl rfl rfl underlying68 rfl (by kernel_rfl) underlying30 rfl (by kernel_rfl)) rfl ?_;rw[uh Z];unfold QL;rw[yg rfl];have O:∀ g,w.heap.size<=g->∀ b,(Value.slice a ms.length n).ownBlock=some b->b<g:=fun g hg b hb=>by have:=uh S b hb;omega
    exact⟨_,_,_,rfl,rfl,Ky (Ky (Ky (uh HO) (O _ (by omega)) [_,_,_,_] 0) (O _ (by omega)) [_,_,_,_,_] 0) (O _ (by omega)) [_,_,_,_] 0,.inr ⟨_,_,rfl⟩,ZL (ZL (ZL (uh r) (by omega) [_,_,_,_] 0) (by omega) [_,_,_,_,_] 0) (by omega) [_,_,_,_] 0⟩)
def Jz(tch:List Bs)(base:Int):Int->List zl->Bool
 | no,[]=>decide (base<no)
 | no,m :: r=>decide (base<no) && (qD tch m.touched || Jz tch base (no - 1) r)
theorem zfq{tch:List Bs}{base no:Int}{l:List zl}(h:¬ base<no):Jz tch base no l=false:=by
 cases l<;>simp[Jz,h]
theorem zfr (S:Nat->Prop) (l:List zl) (m0:zl) (l0:List zl) (hl0:l=m0 :: l0) (v:Value) (o:Value) (p:ZP) (rt:Value) (bl:List Nat) (w:Wo) (h:Zm w (fun _=>True) S l v) (ho:zk Zh w o p.ops bl) (hrt:FV rt) (hb0:0<=p.base) (hno:m0.no<=2000000)
  (hT:∀ wx,Bw w wx->Calls prog 111 #[o] wx fun e w'=>∃ r,e= .returned r/\OT w' wx.heap.size r (ZF p.ops)/\Bw wx w')
  (hC:∀ (wx:Wo) (xa ya:Option Addr) (xb xo xc yb yo yc:Nat) (b:List Bs),Bw w wx->SS wx xa xb xo (Zk p.ops)->SS wx ya yb yo b->(∃ m∈l,m.touched=b)->Calls prog 113 #[.slice xa (Zk p.ops).length xc,.slice ya b.length yc] wx fun e w'=>e= .returned (.bool (qD (Zk p.ops) b))/\Bw wx w'):
  Calls prog 75 #[v,.agg #[o,.int .i64 p.base,.string p.doc,.int .i64 p.tries,rt]] w fun e w'=>e= .returned (.bool (Jz (Zk p.ops) p.base m0.no l))/\Bw w w':=by
 obtain⟨U,V,rfl,-,-⟩:=ho.form;have hh:=h;rw[hl0]at hh;obtain⟨Y,q0,t0,p0,v0,bl0,jv0,rfl,-,T,-⟩:=hh;have g:=(yB.1 T).1;have R:=zu w (.cells #[.slice U p.ops.length V,.int .i64 p.base,.string p.doc,.int .i64 p.tries,rt] 68);have kA:=yG w (.cells #[.slice U p.ops.length V,.int .i64 p.base,.string p.doc,.int .i64 p.tries,rt] 68);have zA:(w.alloc (.cells #[.slice U p.ops.length V,.int .i64 p.base,.string p.doc,.int .i64 p.tries,rt] 68)).heap.size=w.heap.size+1:=by simp
 have z:=zb (hT _ R);have HH:=zb h;have HC:=zb hC;have s:Hid (∀ wx,Bw w wx->wx.cell? ⟨Y,0,none⟩=some (.int .i64 m0.no)):=fun wx hx=>yF ((hx.block Y g).trans T) 0;have u:=zb kA;have N:=zb zA;have W:=zb R;clear h hT hC hl0 T g R kA zA ho;rcases hrt with rfl |⟨t9,p9,rfl⟩
 all_goals (
  go_in;go_wp2_with fail;generalize w.alloc _=wA at *;refine (uh z).mono ?_;rintro e F ⟨r1,rfl,o1,G⟩;obtain⟨ta,tg,tc,rfl,E,-⟩:=OT.all o1;have hz:=uh N;have H:=zh (uh W) G;have c0:=uh s F H;have K:Hid (∀ wx,Bw F wx->wx.cell? ⟨w.heap.size,1,none⟩=some (.int .i64 p.base)):=fun wx hx=>yF ((hx.block w.heap.size (by have:=G.size;omega)).trans ((G.block w.heap.size (by omega)).trans (uh u))) 1;have I:=zb H;have M:=zb E;have D:(ZF p.ops).length=(Zk p.ops).length:=by unfold Zk;simp
  rw[D];clear z G o1 H E u D;go_wp2;go_loopw [6,7] (fun at' nv wr=>∃ (r:List zl) (no:Int),Zm w (fun _=>True) S r at'/\nv= .int .i64 no/\no<=2000000/\(∀ x∈r,x∈l)/\Jz (Zk p.ops) p.base m0.no l=Jz (Zk p.ops) p.base no r/\Bw F wr) (fun _ nv _=>(intOf nv+1).toNat)
  case atStart=>exact⟨l,m0.no,uh HH,rfl,hno,fun _ hx=>hx,rfl,yH _ _⟩
  case round=>
   obtain⟨r,no,B,rfl,hnu,C,A,d⟩:=hrel;have cB:=uh K wr d;have n:=zb C;have f:=zb A;have a:=zb (zh (uh I) d);have J:=zb d;have L:=zb ((uh M).below d);clear C A d c0 W s;by_cases i:p.base<no
   ·cases r with
    | nil=>
     obtain rfl:_=Value.pointer none:=B;go_wp2;go_ret;refine⟨?_,uh a⟩;rw[uh f];simp[Jz,i]
    | cons m r'=>
     obtain⟨b,q,t,p',v',bl,jv,rfl,-,P,Z,-,-,-,-,Q⟩:=B;obtain⟨xa,xg,xc,rfl,sx⟩:=qy.ss (Z.below (uh a));obtain⟨X,rfl⟩:=Q.ptr;have hb:=(yB.1 P).1;have y:Hid (∀ wx,Bw w wx->wx.heap[b]?=some (.cells #[.int .i64 m.no,.string m.doc,.slice xa m.touched.length xc,.iface t p',.pointer X] 109 (0,0))):=fun wx hx=>(hx.block b hb).trans P;have c2:wr.cell? ⟨b,2,none⟩=some (.slice xa m.touched.length xc):=yF (uh y wr (uh a)) 2;have k:=zb (uh HC wr ta xa tg 0 tc xg 0 xc m.touched (uh a) (uh L) sx ⟨m,uh n m yp,rfl⟩);have H8:=zb Q;clear P Z Q sx hb;go_wp2_with fail;refine (uh k).mono ?_;rintro e w2 ⟨rfl,O⟩;have d4:w2.cell? ⟨b,4,none⟩=some (.pointer X):=yF (uh y w2 (zh (uh a) O)) 4;have j:=zb O;clear k O
     cases hc:qD (Zk p.ops) m.touched with
     | true=>
      go_wp2;go_ret;refine⟨?_,zh (uh a) (uh j)⟩;rw[uh f];simp[Jz,i,hc]
     | false=>
      go_wp2;refine⟨⟨r',no - 1,uh H8,rfl,by omega,fun x hx=>uh n x (yv _ hx),?_,zh (uh J) (uh j)⟩,?_⟩
      ·rw[uh f];simp[Jz,i,hc]
      ·simp only[intOf];omega
   ·go_wp2;go_ret;refine⟨?_,uh a⟩;rw[uh f,zfq (show ¬ p.base<no by omega)];rfl)
theorem Zm.up{w w':Wo}{S S':Nat->Prop}(hb:Bw w w')(hS:∀ k,S k->k<w.heap.size)(hS':∀ k,S k->S' k):∀ {l:List zl} {v:Value},Zm w (fun _=>True) S l v->Zm w' (fun _=>True) S' l v
 | [],_,h=>h
 | m :: r,v,h=>by
  obtain⟨b,q,t,p,v',bl,jv,h1,h2,h3,h4,h4',h5,h6,h7,h8⟩:=h;exact⟨b,q,t,p,v',bl,jv,h1,trivial,(hb.block b (yB.1 h3).1).trans h3,h4.below hb,fun x hx=>hS' x (h4' x hx),h5,h6,zi.keep (fun k hk=>hb.block k (hS k hk)) hS' _ _ h7,Zm.up hb hS hS' h8⟩
theorem Zm.mono{w:Wo}{A S A' S':Nat->Prop}(hA:∀ b,A b->A' b)(hS:∀ b,S b->S' b):∀ {l:List zl} {v:Value},Zm w A S l v->Zm w A' S' l v
 | [],_,h=>h
 | m :: r,v,h=>by
  obtain⟨b,q,t,p,v',bl,jv,h1,h2,h3,h4,h4',h5,h6,h7,h8⟩:=h;exact⟨b,q,t,p,v',bl,jv,h1,hA b h2,h3,h4,fun x hx=>hS x (h4' x hx),h5,h6,zi.keep (fun _ _=>rfl) hS _ _ h7,Zm.mono hA hS h8⟩
def SN(S:Nat->Prop)(a b:Nat)(k:Nat):Prop:=S k∨(a<=k/\k<b)
theorem Zm.link{w wz:Wo}{S:Nat->Prop}{l:List zl}{v q:Value}{m:zl}{t:TypeId}{rp:Value}{jv:JV}{bl:List Nat}(hS:∀ k,S k->k<w.heap.size)(h:Zm w (fun _=>True) S l v)(hb:Bw w wz)(ho:qy wz q m.touched bl)(hbl:∀ b∈bl,w.heap.size<=b)(hr:ZI m.doc= .inr jv)(hct:ze (ct jv)=m.doc)(hrep:zi w S jv (.iface t rp)):
  Zm (wz.alloc (.cells #[.int .i64 m.no,.string m.doc,q,.iface t rp,v] 109)) (fun _=>True) (SN S w.heap.size wz.heap.size) (m :: l) (.pointer (some ⟨wz.heap.size,0,none⟩)):=by
 have a:=zu wz (.cells #[.int .i64 m.no,.string m.doc,q,.iface t rp,v] 109);have d:=zh hb a;refine⟨wz.heap.size,q,t,rp,v,bl,jv,rfl,trivial,yG _ _,ho.below a,fun b hb'=>.inr ⟨hbl b hb',ho.lt b hb'⟩,hr,hct,zi.keep (fun k hk=>d.block k (hS k hk)) (fun k hk=>.inl hk) _ _ hrep,?_⟩;exact Zm.up d hS (fun k hk=>.inl hk) h
theorem zfs (S:Nat->Prop) (l:List zl) (m0:zl) (l0:List zl) (hl0:l=m0 :: l0) (v:Value) (o:Value) (p:ZP) (t:TypeId) (rp:Value) (jv:JV) (bl:List Nat) (w:Wo) (hS:∀ k,S k->k<w.heap.size) (h:Zm w (fun _=>True) S l v) (ho:zk Zh w o p.ops bl) (hr:ZI p.doc= .inr jv) (hct:ze (ct jv)=p.doc) (hrep:zi w S jv (.iface t rp)) (hn0:0<=m0.no) (hno:m0.no<=2000000)
  (hT:∀ wx,Bw w wx->Calls prog 111 #[o] wx fun e w'=>∃ r,e= .returned r/\OT w' wx.heap.size r (ZF p.ops)/\Bw wx w'):
  Calls prog 74 #[v,.agg #[o,.int .i64 p.base,.string p.doc,.int .i64 p.tries,.iface t rp]] w fun e w'=>∃ v',e= .returned v'/\Zm w' (fun b=>w.heap.size<=b/\b<w'.heap.size) (SN S w.heap.size w'.heap.size) ((⟨m0.no+1,p.doc,Zk p.ops⟩ :: l).take 8) v'/\Bw w w':=by
 obtain⟨oa,oc,rfl,-,-⟩:=ho.form;have hh:=h;rw[hl0]at hh;obtain⟨b0,q0,t0,p0,v0,bl0,jv0,rfl,-,k0,-⟩:=hh;have hlt0:=(yB.1 k0).1;have hA:=zu w (.cells #[.slice oa p.ops.length oc,.int .i64 p.base,.string p.doc,.int .i64 p.tries,.iface t rp] 68);have kA:=yG w (.cells #[.slice oa p.ops.length oc,.int .i64 p.base,.string p.doc,.int .i64 p.tries,.iface t rp] 68);have zA:(w.alloc (.cells #[.slice oa p.ops.length oc,.int .i64 p.base,.string p.doc,.int .i64 p.tries,.iface t rp] 68)).heap.size=w.heap.size+1:=by simp
 have HF:Hid (∀ wx,Below (w.alloc (.cells #[.slice oa p.ops.length oc,.int .i64 p.base,.string p.doc,.int .i64 p.tries,.iface t rp] 68)).heap.size (w.alloc (.cells #[.slice oa p.ops.length oc,.int .i64 p.base,.string p.doc,.int .i64 p.tries,.iface t rp] 68)) wx->wx.cell? ⟨b0,0,none⟩=some (.int .i64 m0.no)/\QC w.heap.size (.slice oa p.ops.length oc) (.int .i64 p.base) (.string p.doc) (.int .i64 p.tries) (.iface t rp) wx):=fun wx hx=>
  ⟨yF ((hx.block b0 (by omega)).trans ((hA.block b0 hlt0).trans k0)) 0,QC.of ((hx.block w.heap.size (by omega)).trans kA)⟩
 have HL:Hid (∀ (wz:Wo) (q:Value) (bl:List Nat),Bw w wz->qy wz q (Zk p.ops) bl->(∀ b∈bl,w.heap.size<=b)->Zm (wz.alloc (.cells #[.int .i64 (m0.no+1),.string p.doc,q,.iface t rp,.pointer (some ⟨b0,0,none⟩)] 109)) (fun _=>True) (SN S w.heap.size wz.heap.size) (⟨m0.no+1,p.doc,Zk p.ops⟩ :: l) (.pointer (some ⟨wz.heap.size,0,none⟩))):=fun wz q bl hb ho hbl=>Zm.link (m:=⟨m0.no+1,p.doc,Zk p.ops⟩) hS h hb ho hbl hr hct hrep;have HS:=zb hS;have HT:=zb hT;have HA:=zb hA;have HZA:=zb zA;clear h hS hT hl0 k0 hlt0 hA kA zA ho hr hct hrep;go_in;go_wp2_with fail;generalize w.alloc _=wA at *;have HP:Hid (Bw wA (wA.alloc (.cells #[.int .i64 0,.string ⟨#[]⟩,.slice none 0 0] 57)).drew):=zh (zu wA _) (yH _ _).drew;have HKP:Hid ((wA.alloc (.cells #[.int .i64 0,.string ⟨#[]⟩,.slice none 0 0] 57)).drew.heap[wA.heap.size]?=some (.cells #[.int .i64 0,.string ⟨#[]⟩,.slice none 0 0] 57 (0,0))):=yG wA _;have HZP:Hid ((wA.alloc (.cells #[.int .i64 0,.string ⟨#[]⟩,.slice none 0 0] 57)).drew.heap.size=wA.heap.size+1):=by show (wA.alloc _).heap.size=_;simp
 have HD:Hid (Bw wA wA.drew):=(yH _ _).drew;have HC1:=zb (uh HT _ (zh (uh HA) (uh HP)));have HC2:=zb (uh HT _ (zh (uh HA) (uh HD)));obtain⟨f0,f1,f2,f3,f4,f5⟩:=uh HF _ (uh HP);obtain⟨g0,g1,g2,g3,g4,g5⟩:=uh HF _ (uh HD);have hwr:IntKind.i64.wrap (m0.no+1)=m0.no+1:=by rw[IntKind.wrap_i64];omega
 clear HT
 go_region_law (first
   |(
     go_simp;refine (uh HC1).mono ?_;rintro e w4 ⟨r4,rfl,o4,b4⟩;obtain⟨ta,tg,tc,rfl,-,-⟩:=OT.all o4;have b4':=zh (uh HP) b4;obtain⟨e0,e1,e2,e3,e4,e5⟩:=uh HF w4 b4';have kM:=(b4.block wA.heap.size (by have:=uh HZP;omega)).trans (uh HKP);have j0:w4.cell? ⟨wA.heap.size,0,none⟩=some (.int .i64 0):=yF kM 0;have j1:w4.cell? ⟨wA.heap.size,1,none⟩=some (.string ⟨#[]⟩):=yF kM 1;have j2:w4.cell? ⟨wA.heap.size,2,none⟩=some (.slice none 0 0):=yF kM 2;have fM:=yI kM)
   |(
     go_simp;refine (uh HC2).mono ?_;rintro e w4 ⟨r4,rfl,o4,b4⟩;obtain⟨ta,tg,tc,rfl,-,-⟩:=OT.all o4;have b4':Bw wA w4:=⟨b4.os,b4.tape,b4.output,b4.size,b4.block⟩;obtain⟨e0,e1,e2,e3,e4,e5⟩:=uh HF w4 b4';have b5:=zh b4' (zu w4 (.cells #[.int .i64 0,.string ⟨#[]⟩,.slice none 0 0] 57));obtain⟨n0,n1,n2,n3,n4,n5⟩:=uh HF _ b5;have kN:=trivial))
 all_goals (
  first
  |(
    have HKN:=zb kN;have hN:=zu w4 (.cells #[.int .i64 (m0.no+1),.string p.doc,.slice ta (ZF p.ops).length tc] 57);have kZ:=yG w4 (.cells #[.int .i64 (m0.no+1),.string p.doc,.slice ta (ZF p.ops).length tc] 57);have HBZ:=zb (zh b4' hN);have HOZ:=zb ((GC o4).1.below hN);have HOB:Hid (∀ b∈(Value.slice ta (ZF p.ops).length tc).ownBlock.toList,w.heap.size<=b):=fun b hb=>by have h1:=(GC o4).2 b (by simpa using hb);have:=uh HZA;have:=(uh HD).size;omega
    clear kN HKN hN b5 n0 n1 n2 n3 n4 n5;generalize w4.alloc (.cells #[.int .i64 (m0.no+1),.string p.doc,.slice ta (ZF p.ops).length tc] 57)=wz at *;generalize w4.heap.size=zg at *)
  |(
    have kZ:(putN w4 wA.heap.size 0 [.int .i64 (m0.no+1),.string p.doc,.slice ta (ZF p.ops).length tc]).heap[wA.heap.size]?=some (.cells #[.int .i64 (m0.no+1),.string p.doc,.slice ta (ZF p.ops).length tc] 57 (0,0)):=qV kM [_,_,_] rfl;have HBZ:Hid (Bw wA (putN w4 wA.heap.size 0 [.int .i64 (m0.no+1),.string p.doc,.slice ta (ZF p.ops).length tc])):=ZL b4' (ye _) _ _;have HOZ:Hid (qy (putN w4 wA.heap.size 0 [.int .i64 (m0.no+1),.string p.doc,.slice ta (ZF p.ops).length tc]) (.slice ta (ZF p.ops).length tc) (Zk p.ops) _):=(GC o4).1.putN (g:=wA.heap.size) (fun hm=>by have:=(GC o4).2 wA.heap.size (by simpa using hm);have:=uh HZP;omega) _ 0;have HOB:Hid (∀ b∈(Value.slice ta (ZF p.ops).length tc).ownBlock.toList,w.heap.size<=b):=fun b hb=>by have h1:=(GC o4).2 b (by simpa using hb);have:=uh HZA;have:=uh HZP;omega
    clear kM j0 j1 j2 fM;change Exit.then _ _ _ _ (putN w4 wA.heap.size 0 [.int .i64 (m0.no+1),.string p.doc,.slice ta (ZF p.ops).length tc]);generalize putN w4 wA.heap.size 0 [.int .i64 (m0.no+1),.string p.doc,.slice ta (ZF p.ops).length tc]=wz at *;obtain⟨zg,hzg⟩:∃ z,wA.heap.size=z:=⟨_,rfl⟩;simp only[hzg]at kZ ⊢)
  have z0:wz.cell? ⟨zg,0,none⟩=some (.int .i64 (m0.no+1)):=yF kZ 0;have z1:wz.cell? ⟨zg,1,none⟩=some (.string p.doc):=yF kZ 1;have z2:wz.cell? ⟨zg,2,none⟩=some (.slice ta (ZF p.ops).length tc):=yF kZ 2;obtain⟨d0,d1,d2,d3,d4,d5⟩:=uh HF wz (uh HBZ);have HBW:=zb (zh (uh HA) (uh HBZ));have HNW:Hid (Calls prog 112 #[.pointer (some ⟨wz.heap.size,0,none⟩),.int .i64 8] (wz.alloc (.cells #[.int .i64 (m0.no+1),.string p.doc,.slice ta (ZF p.ops).length tc,.iface t rp,.pointer (some ⟨b0,0,none⟩)] 109)) _):=Ta (S:=SN S w.heap.size wz.heap.size) (N:=wz.heap.size) (fun k h=>h.elim (fun h=>yE (uh HS k h) (uh HBW).size) (fun h=>h.2)) _ 8 _ _ (by simp) (by omega) (uh HL wz _ _ (uh HBW) (uh HOZ) (uh HOB));have HAZ:=zb (zu wz (.cells #[.int .i64 (m0.no+1),.string p.doc,.slice ta (ZF p.ops).length tc,.iface t rp,.pointer (some ⟨b0,0,none⟩)] 109));clear HF HL HA HZA HP HKP HZP HD HC1 HC2 f0 f1 f2 f3 f4 f5 g0 g1 g2 g3 g4 g5 e0 e1 e2 e3 e4 e5 o4 b4 b4' kZ HBZ HOZ HOB HS;go_wp2_with fail;generalize wz.alloc _=wy at *;refine (uh HNW).mono ?_;rintro e w5 ⟨v5,rfl,c5,b5⟩;have HB5:=zb b5;have HC5:=zb c5;obtain⟨a5,rfl⟩:=c5.ptr;clear HNW b5 c5;go_wp2;go_ret;have s1:=(uh HAZ).size;have s2:=(uh HB5).size;exact⟨_,rfl,(uh HC5).mono (fun b hb=>⟨by have:=(uh HBW).size;omega,hb.2⟩) (fun k hk=>hk.imp (fun h=>h) (fun h=>⟨h.1,by omega⟩)),zh (zh (uh HBW) (uh HAZ)) (uh HB5)⟩)
theorem UG{w:Wo}{g:Nat}:∀ (vs:List Value) (o:Nat),(putN w g o vs).heap.size=w.heap.size:=by
 intro vs;induction vs generalizing w with
 | nil=>intro o;rfl
 | cons a r ih=>intro o;exact (ih (o+1)).trans (by simp[World.setCell])
def RPn(no:Int)(p:ZP)(v:Value)(w:Wo)(e:Ending)(w':Wo):Prop:=Bw w w'/\(Q1 no p=false->e= .returned (.tuple #[.agg #[.slice none 0 0,.int .i64 0,.string ⟨#[]⟩,.int .i64 0,.nilIface],.bool false])) /\
 (Q1 no p=true->∃ (jv:JV) (t:TypeId) (r:Value),ZI p.doc= .inr jv/\ze (ct jv)=p.doc/\e= .returned (.tuple #[.agg #[v,.int .i64 p.base,.string p.doc,.int .i64 p.tries,.iface t r],.bool true])/\zi w' (fun k=>k<w'.heap.size) jv (.iface t r))
theorem zfu(no:Int)(p:ZP):(p.base<0∨(0<=p.base/\no<p.base)∨(0<=p.base/\p.base<=no/\p.tries<0)∨(0<=p.base/\p.base<=no/\0<=p.tries/\4<p.tries))∨(0<=p.base/\p.base<=no/\0<=p.tries/\p.tries<=4):=by omega
theorem zfv (hb:Nat) (no:Int) (doc:Bs) (q nx rt:Value) (v:Value) (p:ZP) (bl:List Nat) (w:Wo) (hk:w.heap[hb]?=some (.cells #[.int .i64 no,.string doc,q,rt,nx] 109 (0,0)))
  (ho:zk Zh w v p.ops bl) (hs:Xa p.ops) (hd:p.doc.size<=1048576) (hw:Qh w):
  Calls prog 40 #[.pointer (some ⟨hb,0,none⟩),.agg #[v,.int .i64 p.base,.string p.doc,.int .i64 p.tries]] w (RPn no p v w):=by
 obtain⟨G,H,rfl,-,-⟩:=ho.form;have F:=(yB.1 hk).1;have z:=Y8 w (.cells #[.slice G p.ops.length H,.int .i64 p.base,.string p.doc,.int .i64 p.tries] 28) (.cells #[.slice none 0 0,.int .i64 0,.string ⟨#[]⟩,.int .i64 0,.nilIface] 68);have y:Hid (∀ wx,Below ((w.alloc (.cells #[.slice G p.ops.length H,.int .i64 p.base,.string p.doc,.int .i64 p.tries] 28)).alloc (.cells #[.slice none 0 0,.int .i64 0,.string ⟨#[]⟩,.int .i64 0,.nilIface] 68)).heap.size ((w.alloc (.cells #[.slice G p.ops.length H,.int .i64 p.base,.string p.doc,.int .i64 p.tries] 28)).alloc (.cells #[.slice none 0 0,.int .i64 0,.string ⟨#[]⟩,.int .i64 0,.nilIface] 68)) wx->Zt w.heap.size (.slice G p.ops.length H) (.int .i64 p.base) (.string p.doc) (.int .i64 p.tries) wx/\wx.cell? ⟨hb,0,none⟩=some (.int .i64 no)/\wx.heap[w.heap.size+1]?=some (.cells #[.slice none 0 0,.int .i64 0,.string ⟨#[]⟩,.int .i64 0,.nilIface] 68 (0,0))):=fun wx hx=>by
  have M:=z.size;exact⟨Zt.of ((hx.block w.heap.size (by omega)).trans z.k0),yF ((hx.block hb (by omega)).trans ((z.bel.block hb F).trans hk)) 0,(hx.block (w.heap.size+1) (by omega)).trans z.k1⟩
 have D:Hid (∀ wx,Bw w wx->Calls prog 73 #[.slice G p.ops.length H] wx (Td p.ops wx)):=fun wx hx=>Te _ p.ops bl wx (ho.below hx) hs (hw.up hx);have B:Hid (∀ wx,Bw w wx->Calls prog 53 #[.string p.doc] wx (Pp p.doc wx)):=fun wx hx=>Pq p.doc wx (hw.up hx).tab (hw.up hx).err (hw.up hx).pow (by omega);have u:=zb z;clear ho hs hd hw hk F z;rcases zfu no p with hn |⟨n1,n2,n3,n4⟩
 ·have K:Hid (Q1 no p=false):=by
   show _=_
   unfold Q1;rcases hn with h |⟨E,h⟩ |⟨E,h2,h⟩ |⟨E,h2,h3,h⟩
   ·rw[yk (show ¬ 0<=p.base by omega)];simp
   ·rw[yk (show ¬ p.base<=no by omega)];simp
   ·rw[yk (show ¬ 0<=p.tries by omega)];simp
   ·rw[yk (show ¬ p.tries<=4 by omega)];simp
  rcases hn with h |⟨E,h⟩ |⟨E,h2,h⟩ |⟨E,h2,h3,h⟩
  all_goals (
   have t1:decide (p.base<0)=decide (p.base<0):=rfl;obtain⟨q1,U⟩:∃ b,decide (p.base<0)=b:=⟨_,rfl⟩;obtain⟨q2,V⟩:∃ b,decide (no<p.base)=b:=⟨_,rfl⟩;obtain⟨q3,W⟩:∃ b,decide (p.tries<0)=b:=⟨_,rfl⟩;obtain⟨q4,X⟩:∃ b,decide (4<p.tries)=b:=⟨_,rfl⟩
   cases q1<;>cases q2<;>cases q3<;>cases q4
   all_goals first
    |(exfalso;simp at U V W X;omega)
    |(
      clear t1;go_in;go_wp2_with fail;generalize (w.alloc _).alloc _=l at *;obtain⟨⟨Y,Z,f2,f3⟩,f4,O⟩:=uh y l (yH _ _);go_quiet (fail);have j:(l.drewN nq).heap[w.heap.size+1]?=_:=O;obtain⟨c0,c1,c2,c3,c4⟩:=QC.of j;have fz:=yI j;have HK:=zb j;have x:=zb (zh (uh u).bel (J8 l nq));clear Y Z f2 f3 f4 O j y D B;go_wp2;refine bodyPost_ret (Uc rfl _ _ (w.heap.size+1) 68 #[_,_,_,_,_] (0,0) _ _ rfl rfl (qV (uh HK) [_,_,_,_,_] rfl) underlying68 rfl (by kernel_rfl)) rfl ?_;exact⟨ZL (uh x) (by omega) [_,_,_,_,_] 0,fun _=>rfl,fun h=>by rw[uh K]at h;cases h⟩))
 ·have U:decide (p.base<0)=false:=yk (by omega);have V:decide (no<p.base)=false:=yk (by omega);have W:decide (p.tries<0)=false:=yk (by omega);have X:decide (4<p.tries)=false:=yk (by omega);have K:Hid (Q1 no p=(decide (ZT p.ops<0) && Z6 p.doc)):=by show _=_;unfold Q1;rw[yj n1,yj n2,yj n3,yj n4];simp
  clear n1 n2 n3 n4;go_in;go_wp2_with fail;generalize (w.alloc _).alloc _=l at *;obtain⟨⟨Y,Z,f2,f3⟩,f4,O⟩:=uh y l (yH _ _);go_quiet (fail);have L:=J8 l nq;obtain⟨⟨g0,g1,g2,g3⟩,-,-⟩:=uh y (l.drewN nq) L;have HR:=zb (uh D (l.drewN nq) (zh (uh u).bel L));have P:=zb L;clear Y Z f2 f3 f4 O L U V W X;go_wp2_with fail;generalize l.drewN nq=wB at *;refine (uh HR).mono ?_;rintro e w2 ⟨b2,f,a⟩;have n:=zh (uh P) b2;obtain⟨⟨m0,m1,m2,m3⟩,-,k2⟩:=uh y w2 n;have d:=zb n;have m:=zb k2;clear g0 g1 g2 g3 HR b2 n k2;by_cases M:0<=ZT p.ops
  ·obtain⟨t,r,rfl,-⟩:=f M;have J:Hid (Q1 no p=false):=by show _=_;rw[uh K,yk (by omega)];rfl
   obtain⟨c0,c1,c2,c3,c4⟩:=QC.of (uh m);have fz:=yI (uh m);have x:=zb (zh (uh u).bel (uh d));clear f a M;go_wp2;refine bodyPost_ret (Uc rfl _ _ (w.heap.size+1) 68 #[_,_,_,_,_] (0,0) _ _ rfl rfl (qV (uh m) [_,_,_,_,_] rfl) underlying68 rfl (by kernel_rfl)) rfl ?_;exact⟨ZL (uh x) (by omega) [_,_,_,_,_] 0,fun _=>rfl,fun h=>by rw[uh J]at h;cases h⟩
  ·obtain⟨lv,qs,rfl,-⟩:=a (by omega);have J:Hid (Q1 no p=Z6 p.doc):=by show _=_;rw[uh K,yj (by omega)];rfl
   have HC:=zb (uh B w2 (zh (uh u).bel (uh d)));clear f a M;go_wp2_with fail;refine (uh HC).mono ?_;rintro e w3 ⟨T,s,i⟩;have o:=zh (uh d) T;obtain⟨⟨s0,s1,s2,s3⟩,-,N⟩:=uh y w3 o;obtain⟨c0,c1,c2,c3,c4⟩:=QC.of N;have fz:=yI N;have x:=zb (zh (uh u).bel o);have A:=zb N;have hz3:=T.size;clear m0 m1 m2 m3 T o HC N
   cases hg:Z6 p.doc with
   | false=>
    obtain rfl:=s hg;have S:Hid (Q1 no p=false):=by show _=_;rw[uh J,hg]
    clear s i hg;go_wp2;refine bodyPost_ret (Uc rfl _ _ (w.heap.size+1) 68 #[_,_,_,_,_] (0,0) _ _ rfl rfl (qV (uh A) [_,_,_,_,_] rfl) underlying68 rfl (by kernel_rfl)) rfl ?_;exact⟨ZL (uh x) (by omega) [_,_,_,_,_] 0,fun _=>rfl,fun h=>by rw[uh S]at h;cases h⟩
   | true=>
    obtain⟨jv,t,r,r1,r2,rfl,I⟩:=i hg;have S:Hid (Q1 no p=true):=by show _=_;rw[uh J,hg]
    have Q:=zb r1;have R:=zb r2;have C:=zb I;have hwA:=(uh u).size;have hs2:=(uh d).size;clear s i hg r1 r2 I;go_wp2;refine bodyPost_ret (Uc rfl _ _ (w.heap.size+1) 68 #[_,_,_,_,_] (0,0) _ _ rfl rfl (qV (uh A) [_,_,_,_,_] rfl) underlying68 rfl (by kernel_rfl)) rfl ?_;refine⟨ZL (uh x) (by omega) [_,_,_,_,_] 0,fun h=>(by rw[uh S]at h;cases h),fun _=>⟨jv,t,r,uh Q,uh R,rfl,?_⟩⟩;exact zi.keep (fun k hk=>ZO (w:=w3) (g:=w.heap.size+1) (by omega) [_,_,_,_,_] 0) (fun k hk=>Nat.lt_of_lt_of_eq hk.2 (UG (w:=w3) (g:=w.heap.size+1) [_,_,_,_,_] 0).symm) _ _ (uh C)
theorem FW {P:Program} {fn:Func} {o p q:Tmp} {t1 t2:TypeId} (h:fn.results=#[.tmp o,.cell p t1,.cell q t2]) {tmps:Array Value} {w:Wo} (w':Wo) {v:Value} {g1 g2:Nat} {cs1 cs2:Array Value} (xs ys:List Value) {d1 d2:TypeDesc}
  (ho:tmps.getD o undef=v) (hp:tmps.getD p undef= .pointer (some ⟨g1,0,none⟩)) (hq:tmps.getD q undef= .pointer (some ⟨g2,0,none⟩)) (k1:w.heap[g1]?=some (.cells cs1 t1 (0,0))) (k2:w.heap[g2]?=some (.cells cs2 t2 (0,0))) (hne:g1≠g2) (hw:w'=putN (putN w g1 0 xs) g2 0 ys) (l1:xs.length=cs1.size) (l2:ys.length=cs2.size)
  (hu1:P.underlying t1=some d1) (hd1:(match d1 with | .struct _ | .array _ _=>true | _=>false)=true) (hi1:(P.info? t1).map (·.size)=some xs.toArray.size) (hu2:P.underlying t2=some d2) (hd2:(match d2 with | .struct _ | .array _ _=>true | _=>false)=true) (hi2:(P.info? t2).map (·.size)=some ys.toArray.size):
  (results fn tmps).run P w'= .ok (.tuple #[v,.agg xs.toArray,.agg ys.toArray]) w':=by
 have a:tmps[o]?.getD undef=v:=by simpa using ho
 have b:tmps[p]?.getD undef= .pointer (some ⟨g1,0,none⟩):=by simpa using hp
 have d:tmps[q]?.getD undef= .pointer (some ⟨g2,0,none⟩):=by simpa using hq
 have f:w'.heap[g1]?=some (.cells xs.toArray t1 (0,0)):=by rw[hw,ZO hne,qV k1 xs l1]
 have g:w'.heap[g2]?=some (.cells ys.toArray t2 (0,0)):=by rw[hw];exact qV ((ZO (Ne.symm hne) _ _).trans k2) ys l2
 simp[results,h,a,b,d,asAddr,run_loadVar_row w' g1 t1 t1 _ (0,0) d1 f hu1 hd1 hi1,run_loadVar_row w' g2 t2 t2 _ (0,0) d2 g hu2 hd2 hi2]
theorem UH{w:Wo}{B g:Nat}{v:Value}{ms:List zw}{cs:Array Value}{T:TypeId}(h:Z3 w B v ms)(hk:w.heap[g]?=some (.cells cs T (0,0)))(hT:T≠95)(xs:List Value)(o:Nat):Z3 (putN w g o xs) B v ms:=
 GW h (fun b hb=>ZO (fun e=>by
  subst e;have d:v.ownBlock=some b:=by simpa using hb
  rcases h with ⟨_,⟨rfl,_⟩ |⟨k,i,j,rfl,_,a,_⟩⟩
  ·cases d
  ·have f:k=b:=by injection d
   rw[f,hk]at a;injection a with a;injection a with _ h2 _;exact hT h2) xs o)
theorem zfw(vs:List zl)(no t:Int)(a:Bs×Int×Int)(ops:List zw):Ww vs no t a ops=⟨vs,⟨(QL no a ops).ops,(QL no a ops).base,(QL no a ops).doc,if (QL no a ops).kind=1 then t else 0⟩,(QL no a ops).kind,(QL no a ops).code,(QL no a ops).pos,0⟩:=by
 unfold Ww QL;split<;>rfl
theorem zfx(xs:List zl):(QN xs).reverse=xs.reverse.take 8:=by
 unfold QN;rw[List.reverse_drop];by_cases h:8<=xs.length
 ·congr 1;omega
 ·rw[yq (by rw[List.length_reverse];omega),yq (by rw[List.length_reverse];omega)]
def AtP(S:Nat->Prop)(a:Jk)(w:Wo)(e:Ending)(w':Wo):Prop:=∃ v' vo rt,e= .returned (.tuple #[v',.agg #[vo,.int .i64 a.pn.base,.string a.pn.doc,.int .i64 a.pn.tries,rt],.agg #[.int .i64 a.kind,.int .i64 a.code,.int .i64 a.pos,.int .i64 a.no]])/\Zm w' (fun _=>True) (SN S w.heap.size w'.heap.size) a.vs.reverse v'/\Z3 w' 0 vo a.pn.ops/\FV rt/\Bw w w'
theorem Zm.put2{w2 w':Wo}{S:Nat->Prop}{n N:Nat}{l:List zl}{v:Value}(hS:∀ k,S k->k<n)(hN:n+3<=N)(h:Zm w2 (fun b=>N<=b/\b<w2.heap.size) (SN S N w2.heap.size) l v)(hk:∀ k,k≠n+1->k≠n+1+1->w'.heap[k]?=w2.heap[k]?)(hz:w'.heap.size=w2.heap.size):Zm w' (fun _=>True) (SN S n w'.heap.size) l v:=by
 have d:Zm w' (fun _=>True) (SN S N w2.heap.size) l v:=h.keep (fun b a=>⟨hk b (by omega) (by omega),trivial⟩) (fun b a=>by
  rcases a with a | a
  ·have:=hS b a;exact hk b (by omega) (by omega)
  ·exact hk b (by omega) (by omega))
 exact d.mono (fun _ h=>h) (fun k hk=>hk.imp (fun h=>h) (fun h=>⟨by omega,by omega⟩))
structure DC(b:Nat)(o:Value)(p:ZP)(t:TypeId)(rp:Value)(w:Wo):Prop where
 k0:w.heap[b]?=some (.cells #[o,.int .i64 p.base,.string p.doc,.int .i64 p.tries,.iface t rp] 68 (0,0))
 db:DB (b+1) w
theorem DC.next{b:Nat}{o:Value}{p:ZP}{t:TypeId}{rp:Value}{w w':Wo}(h:DC b o p t rp w)(hb:Bw w w'):DC b o p t rp w':=
 ⟨(hb.block b (yB.1 h.k0).1).trans h.k0,h.db.next hb⟩
theorem zfz (S:Nat->Prop) (vs l:List zl) (m0:zl) (l0:List zl) (hl:l=m0 :: l0) (hvl:l=vs.reverse) (v:Value) (o:Value) (p:ZP) (t:TypeId) (rp:Value) (bl:List Nat) (w:Wo) (hS:∀ k,S k->k<w.heap.size) (h:Zm w (fun _=>True) S l v) (ho:zk Zh w o p.ops bl) (ht0:0<=p.tries) (ht4:p.tries<=4)
  (hcm:Jz (Zk p.ops) p.base m0.no l=meets vs (Zk p.ops) p.base)
  (hP:∀ wx,Bw w wx->Calls prog 74 #[v,.agg #[o,.int .i64 p.base,.string p.doc,.int .i64 p.tries,.iface t rp]] wx fun e w'=>∃ v',e= .returned v'/\Zm w' (fun b=>wx.heap.size<=b/\b<w'.heap.size) (SN S wx.heap.size w'.heap.size) ((⟨m0.no+1,p.doc,Zk p.ops⟩ :: l).take 8) v'/\Bw wx w')
  (hC:∀ wx,Bw w wx->Calls prog 75 #[v,.agg #[o,.int .i64 p.base,.string p.doc,.int .i64 p.tries,.iface t rp]] wx fun e w'=>e= .returned (.bool (Jz (Zk p.ops) p.base m0.no l))/\Bw wx w')
  (hY:∀ wx,Bw w wx->Calls prog 57 #[v,o,.int .i64 (p.tries+1)] wx (Ci (QL m0.no (qk m0.doc p.ops) p.ops) (p.tries+1) 0 wx)):
  Calls prog 41 #[v,.agg #[o,.int .i64 p.base,.string p.doc,.int .i64 p.tries,.iface t rp]] w (AtP S (qA vs m0 p) w):=by
 obtain⟨oa,oc,rfl,-,-⟩:=ho.form;have hh:=h;rw[hl]at hh;obtain⟨b0,q0,t0,p0,v0,bl0,jv0,rfl,-,k0,-⟩:=hh;have U:=(yB.1 k0).1;have B:=Y8 w (.cells #[.slice oa p.ops.length oc,.int .i64 p.base,.string p.doc,.int .i64 p.tries,.iface t rp] 68) (.cells #[.slice none 0 0,.int .i64 0,.string ⟨#[]⟩,.int .i64 0,.nilIface] 68);obtain⟨W,hW⟩:∃ W,W=(w.alloc (.cells #[.slice oa p.ops.length oc,.int .i64 p.base,.string p.doc,.int .i64 p.tries,.iface t rp] 68)).alloc (.cells #[.slice none 0 0,.int .i64 0,.string ⟨#[]⟩,.int .i64 0,.nilIface] 68):=⟨_,rfl⟩;rw[← hW]at B;have L:=zu W (.cells #[.int .i64 0,.int .i64 0,.int .i64 0,.int .i64 0] 30);have kA3:=yG W (.cells #[.int .i64 0,.int .i64 0,.int .i64 0,.int .i64 0] 30);have zW:=B.size;have E:Hid (DC w.heap.size (.slice oa p.ops.length oc) p t rp (W.alloc (.cells #[.int .i64 0,.int .i64 0,.int .i64 0,.int .i64 0] 30))):=⟨(L.block w.heap.size (by omega)).trans B.k0,(L.block (w.heap.size+1) (by omega)).trans B.k1,by rw[show w.heap.size+1+1=W.heap.size by omega];exact kA3⟩;have HA:=zb (zh B.bel L);have c0:(W.alloc (.cells #[.int .i64 0,.int .i64 0,.int .i64 0,.int .i64 0] 30)).cell? ⟨b0,0,none⟩=some (.int .i64 m0.no):=yF (((uh HA).block b0 U).trans k0) 0;have HH:=zb h;have HO:=zb ho;have HP:=zb hP;have HC:=zb hC;have HY:=zb hY;have HVL:=zb hvl;have HL:=zb hl;have z:=zb hcm;have HZ:Hid ((W.alloc (.cells #[.int .i64 0,.int .i64 0,.int .i64 0,.int .i64 0] 30)).heap.size=w.heap.size+3):=by
  show _=_
  have:(W.alloc (.cells #[.int .i64 0,.int .i64 0,.int .i64 0,.int .i64 0] 30)).heap.size=W.heap.size+1:=by simp
  omega
 have HS:=zb hS;subst hW;clear h hS ho hP hC hY hvl hl hcm k0 U B L kA3 zW;go_in;go_wp2_with fail;generalize ((w.alloc _).alloc _).alloc _=wA at *;obtain⟨P,Q,R,T,d4⟩:=QC.of (uh E).k0;by_cases C:p.base=m0.no
 ·have N:Hid (qA vs m0 p=⟨QN (vs++[⟨m0.no+1,p.doc,Zk p.ops⟩]),Jt,2,0,0,m0.no+1⟩):=by show _=_;unfold qA;rw[yg C]
  have tq:(p.base ==m0.no)=true:=by simp[C]
  clear C;go_quiet (fail);have K:=J8 wA nq;have HZB:Hid (w.heap.size+3<=(wA.drewN nq).heap.size):=by
   show _<=_
   have:=uh HZ;have:=K.size;omega
  have d:=zb ((uh E).next K);obtain⟨g0,g1,g2,g3,g4⟩:=QC.of (uh d).k0;have HPQ:=zb (uh HP _ (zh (uh HA) K));have j:=zb (zh (uh HA) K);clear P Q R T d4 HC HY E z HP K c0 HA tq;go_wp2_with fail;generalize wA.drewN nq=wB at *;refine (uh HPQ).mono ?_;rintro e r ⟨v2,rfl,c2,O⟩;have HC2:Hid (Zm r (fun b=>wB.heap.size<=b/\b<r.heap.size) (SN S wB.heap.size r.heap.size) (QN (vs++[⟨m0.no+1,p.doc,Zk p.ops⟩])).reverse v2):=by
   show Zm _ _ _ _ _
   rw[zfx,List.reverse_append,← uh HVL];exact c2
  rw[List.take_succ_cons]at c2;obtain⟨b1,q1,t1,p1,v1,bl1,jv1,rfl,-,D,-⟩:=c2;have n:Bw r r.drew:=(yH _ _).drew;have a:=zb ((uh d).next O);have y:=zb (zh (uh j) O);have nb1:¬ b1=w.heap.size+1:=fun e=>by
   rw[e,(uh a).db.k1]at D;injection D with D;injection D with _ h _;exact absurd h (by decide)
  have nb2:¬ b1=w.heap.size+1+1:=fun e=>by
   rw[e,(uh a).db.k2]at D;injection D with D;injection D with _ h _;exact absurd h (by decide)
  have nb1':¬ w.heap.size+1=b1:=fun e=>nb1 e.symm;have nb2':¬ w.heap.size+1+1=b1:=fun e=>nb2 e.symm;have e1:r.cell? ⟨b1,0,none⟩=some (.int .i64 (m0.no+1)):=yF D 0;have e0:r.drew.cell? ⟨b1,0,none⟩=some (.int .i64 (m0.no+1)):=yF ((n.block b1 (yB.1 D).1).trans D) 0;obtain⟨c0,c1,c2,c3,c4⟩:=QC.of (uh a).db.k1;obtain⟨P,Q,R,T⟩:=Zt.of (uh a).db.k2;have f1:=yI (uh a).db.k1;have f2:=yI (uh a).db.k2;have A:=zb n;clear HPQ O D n d j g0 g1 g2 g3 g4;go_wp2_with fail;go_region_law (fail)
  all_goals (
   have f:=zb ((uh a).next (uh A));have HQ1:Hid (∀ k,k≠w.heap.size+1->k≠w.heap.size+1+1->(putN (putN r.drew (w.heap.size+1) 0 [.slice none 0 0,.int .i64 0,.string ⟨#[]⟩,.int .i64 0,.nilIface]) (w.heap.size+1+1) 0 [.int .i64 2,.int .i64 0,.int .i64 0,.int .i64 (m0.no+1)]).heap[k]?=r.heap[k]?):=fun k h1 h2=>(ZO h2 _ _).trans (ZO h1 _ _);have HQ2:Hid ((putN (putN r.drew (w.heap.size+1) 0 [.slice none 0 0,.int .i64 0,.string ⟨#[]⟩,.int .i64 0,.nilIface]) (w.heap.size+1+1) 0 [.int .i64 2,.int .i64 0,.int .i64 0,.int .i64 (m0.no+1)]).heap.size=r.heap.size):=(UG _ _).trans (UG _ _);have HQ3:Hid (Bw w (putN (putN r.drew (w.heap.size+1) 0 [.slice none 0 0,.int .i64 0,.string ⟨#[]⟩,.int .i64 0,.nilIface]) (w.heap.size+1+1) 0 [.int .i64 2,.int .i64 0,.int .i64 0,.int .i64 (m0.no+1)])):=ZL (ZL (zh (uh y) (uh A)) (by omega) _ _) (by omega) _ _;have HQ:=zb (Zm.put2 (uh HS) (uh HZB) (uh HC2) (uh HQ1) (uh HQ2));go_wp2;change bodyPost _ _ _ _ _ (putN (putN r (w.heap.size+1) 0 [.slice none 0 0,.int .i64 0,.string ⟨#[]⟩,.int .i64 0,.nilIface]) (w.heap.size+1+1) 0 [.int .i64 2,.int .i64 0,.int .i64 0,.int .i64 (m0.no+1)]).drew;rw[← GD,← GD];refine bodyPost_ret (FW (w:=r.drew) rfl _ [.slice none 0 0,.int .i64 0,.string ⟨#[]⟩,.int .i64 0,.nilIface] [.int .i64 2,.int .i64 0,.int .i64 0,.int .i64 (m0.no+1)] rfl rfl rfl (uh f).db.k1 (uh f).db.k2 (by omega) rfl rfl rfl underlying68 rfl (by kernel_rfl) underlying30 rfl (by kernel_rfl)) rfl ?_;rw[uh N];exact⟨_,_,_,rfl,uh HQ,Yz _ _,.inl rfl,uh HQ3⟩)
 ·have tq:(p.base ==m0.no)=false:=by simp[C]
  have X:=zb C;have hwr:IntKind.i64.wrap (p.tries+1)=p.tries+1:=by rw[IntKind.wrap_i64];omega
  have Y:Hid (∀ wx,Bw w wx->Zm wx (fun _=>True) (SN S w.heap.size wx.heap.size) vs.reverse (.pointer (some ⟨b0,0,none⟩))):=fun wx hx=>by
   rw[← uh HVL];exact Zm.up hx (uh HS) (fun k hk=>.inl hk) (uh HH)
  clear C HP;go_quiet (fail);have K:=J8 wA nq;have d:=zb ((uh E).next K);have j:=zb (zh (uh HA) K);clear P Q R T d4 E K c0 HA tq HZ;obtain⟨g0,g1,g2,g3,g4⟩:=QC.of (uh d).k0;obtain⟨c0,c1,c2,c3,c4⟩:=QC.of (uh d).db.k1;obtain⟨P,Q,R,T⟩:=Zt.of (uh d).db.k2;have f1:=yI (uh d).db.k1;have f2:=yI (uh d).db.k2;generalize wA.drewN nq=wB at *;by_cases h4:4<p.tries+1
  ·have N:Hid (qA vs m0 p=⟨vs,Jt,4,0,0,0⟩):=by show _=_;unfold qA;rw[yf (uh X),yg h4]
   clear HC HY z;go_wp2;refine bodyPost_ret (FW rfl _ [_,_,_,_,_] [_,_,_,_] rfl rfl rfl (uh d).db.k1 (uh d).db.k2 (by omega) rfl rfl rfl underlying68 rfl (by kernel_rfl) underlying30 rfl (by kernel_rfl)) rfl ?_;rw[uh N];have hf:=ZL (g:=w.heap.size+1+1) (ZL (g:=w.heap.size+1) (uh j) (by omega) [.slice none 0 0,.int .i64 0,.string ⟨#[]⟩,.int .i64 0,.nilIface] 0) (by omega) [.int .i64 4,.int .i64 0,.int .i64 0,.int .i64 0] 0;exact⟨_,_,_,rfl,uh Y _ hf,Yz _ _,.inl rfl,hf⟩
  ·have Z:=zb (uh HC _ (uh j));have HN4:=zb h4;have h4':¬ (4<p.tries+1):=h4;clear HC c0 c1 c2 c3 c4 P Q R T f1 f2;go_wp2_with fail;refine (uh Z).mono ?_;rintro e r ⟨rfl,O⟩;have a:=zb ((uh d).next O);have y:=zb (zh (uh j) O);obtain⟨g0,g1,g2,g3,g4⟩:=QC.of (uh a).k0;obtain⟨c0,c1,c2,c3,c4⟩:=QC.of (uh a).db.k1;obtain⟨P,Q,R,T⟩:=Zt.of (uh a).db.k2;have f0:=yI (uh a).k0;have f1:=yI (uh a).db.k1;have f2:=yI (uh a).db.k2
   cases hcf:Jz (Zk p.ops) p.base m0.no l with
   | true=>
    have N:Hid (qA vs m0 p=⟨vs,Jt,3,0,0,0⟩):=by show _=_;unfold qA;rw[yf (uh X),yf (by have:=uh HN4;omega),yg (by rw[← uh z,hcf])]
    clear Z z HY d j O hcf h4 h4';go_wp2;refine bodyPost_ret (FW rfl _ [_,_,_,_,_] [_,_,_,_] rfl rfl rfl (uh a).db.k1 (uh a).db.k2 (by omega) rfl rfl rfl underlying68 rfl (by kernel_rfl) underlying30 rfl (by kernel_rfl)) rfl ?_;rw[uh N];have hf:=ZL (g:=w.heap.size+1+1) (ZL (g:=w.heap.size+1) (uh y) (by omega) [.slice none 0 0,.int .i64 0,.string ⟨#[]⟩,.int .i64 0,.nilIface] 0) (by omega) [.int .i64 3,.int .i64 0,.int .i64 0,.int .i64 0] 0;exact⟨_,_,_,rfl,uh Y _ hf,Yz _ _,.inl rfl,hf⟩
   | false=>
    have N:Hid (qA vs m0 p=Ww vs m0.no (p.tries+1) (qk m0.doc p.ops) p.ops):=by show _=_;unfold qA;rw[yf (uh X),yf (by have:=uh HN4;omega),yf (by rw[← uh z,hcf];simp)]
    have HYQ:=zb (uh HY _ (uh y));clear Z z HY d j O hcf h4 h4' c0 c1 c2 c3 c4 P Q R T f0 f1 f2;go_wp2_with fail;refine (uh HYQ).mono ?_;rintro e s ⟨v3,M,rt,rfl,htr,o3,hrt,b3⟩;obtain⟨a3,n3,rfl⟩:=YS o3;have hN:=zu s (.cells #[.int .i64 0,.int .i64 0,.int .i64 0,.int .i64 0] 30);have V:w.heap.size+1+1<s.heap.size:=(yB.1 ((uh a).next b3).db.k2).1;have f:=zb (((uh a).next b3).next hN);have HB3:=zb (zh (zh (uh y) b3) hN);have HO3:=zb (ZB o3 hN);have HTR:=zb htr;have J:Hid ((s.alloc (.cells #[.int .i64 0,.int .i64 0,.int .i64 0,.int .i64 0] 30)).heap[s.heap.size]?=some (.cells #[.int .i64 0,.int .i64 0,.int .i64 0,.int .i64 0] 30 (0,0))):=yG _ _;have HX2:Hid (qA vs m0 p=⟨vs,⟨(QL m0.no (qk m0.doc p.ops) p.ops).ops,(QL m0.no (qk m0.doc p.ops) p.ops).base,(QL m0.no (qk m0.doc p.ops) p.ops).doc,M⟩,(QL m0.no (qk m0.doc p.ops) p.ops).kind,(QL m0.no (qk m0.doc p.ops) p.ops).code,(QL m0.no (qk m0.doc p.ops) p.ops).pos,0⟩):=by show _=_;rw[uh N,zfw,htr]
    obtain⟨g0,g1,g2,g3,g4⟩:=QC.of (uh f).k0;obtain⟨e0,e1,e2,e3⟩:=Zt.of (uh J);have f0:=yI (uh f).k0;have f3:=yI (uh J);have n0:¬ s.heap.size=w.heap.size:=by omega
    have n0':¬ w.heap.size=s.heap.size:=by omega
    clear N;generalize QL m0.no (qk m0.doc p.ops) p.ops=i at *;obtain⟨wY,u⟩:∃ wY,wY=putN (s.alloc (.cells #[.int .i64 0,.int .i64 0,.int .i64 0,.int .i64 0] 30)) w.heap.size 0 [.slice a3 i.ops.length n3,.int .i64 i.base,.string i.doc,.int .i64 M,rt]:=⟨_,rfl⟩;obtain⟨x,q⟩:∃ x,x=putN wY s.heap.size 0 [.int .i64 i.kind,.int .i64 i.code,.int .i64 i.pos,.int .i64 0]:=⟨_,rfl⟩;have kY0:wY.heap[w.heap.size]?=some (.cells #[.slice a3 i.ops.length n3,.int .i64 i.base,.string i.doc,.int .i64 M,rt] 68 (0,0)):=by rw[u];exact qV (uh f).k0 _ rfl
    have kYN:wY.heap[s.heap.size]?=some (.cells #[.int .i64 0,.int .i64 0,.int .i64 0,.int .i64 0] 30 (0,0)):=by rw[u];exact (ZO n0 _ _).trans (uh J)
    have F:Hid (x.heap[w.heap.size]?=some (.cells #[.slice a3 i.ops.length n3,.int .i64 i.base,.string i.doc,.int .i64 M,rt] 68 (0,0))):=by show _=_;rw[q];exact (ZO n0' _ _).trans kY0
    have G:Hid (x.heap[s.heap.size]?=some (.cells #[.int .i64 i.kind,.int .i64 i.code,.int .i64 i.pos,.int .i64 0] 30 (0,0))):=by show _=_;rw[q];exact qV kYN _ rfl
    have m:Hid (DB (w.heap.size+1) x):=by
     show DB _ _
     rw[q,u];exact⟨((ZO (by omega) _ _).trans (ZO (by omega) _ _)).trans (uh f).db.k1,((ZO (by omega) _ _).trans (ZO (by omega) _ _)).trans (uh f).db.k2⟩
    have HOZ:Hid (Z3 x 0 (.slice a3 i.ops.length n3) i.ops):=by
     show Z3 _ _ _ _
     rw[q];refine UH ?_ kYN (by decide) _ _;rw[u];exact UH (uh HO3) (uh f).k0 (by decide) _ _
    have HBZ:Hid (Bw w x):=by
     show Below _ _ _
     rw[q,u];exact ZL (ZL (uh HB3) (ye _) _ _) (by omega) _ _
    rw[u]at q;have HWZ:=zb q;have I:=zb V;clear HYQ b3 o3 htr HTR a y hN V q u kY0 kYN f HB3 HO3 J;have hrt':=zb hrt;rcases hrt with rfl |⟨t3,p3,rfl⟩
    all_goals (
     go_wp2_with fail;change Code.wp _ _ _ _ (putN (putN (s.alloc _) w.heap.size 0 [_,_,_,_,_]) s.heap.size 0 [_,_,_,_]);rw[← uh HWZ];clear g0 g1 g2 g3 g4 e0 e1 e2 e3 f0 f3;obtain⟨g0,g1,g2,g3,g4⟩:=QC.of (uh F);obtain⟨e0,e1,e2,e3⟩:=Zt.of (uh G);obtain⟨c0,c1,c2,c3,c4⟩:=QC.of (uh m).k1;obtain⟨P,Q,R,T⟩:=Zt.of (uh m).k2;have f1:=yI (uh m).k1;have f2:=yI (uh m).k2;have n:Bw x x.drew:=(yH _ _).drew;have A:=zb n;have kd0:=(n.block _ (yB.1 (uh F)).1).trans (uh F);have kdN:=(n.block _ (yB.1 (uh G)).1).trans (uh G);obtain⟨g0',g1',g2',g3',g4'⟩:=QC.of kd0;obtain⟨e0',e1',e2',e3'⟩:=Zt.of kdN;have m1:¬ s.heap.size=w.heap.size+1:=by have:=uh I;omega
     have m2:¬ s.heap.size=w.heap.size+1+1:=by have:=uh I;omega
     have m1':¬ w.heap.size+1=s.heap.size:=by have:=uh I;omega
     have m2':¬ w.heap.size+1+1=s.heap.size:=by have:=uh I;omega
     clear HWZ n kd0 kdN;go_region_law (fail)
     all_goals (
      have H:=zb ((uh m).next (uh A));have HF:Hid (∀ xs ys:List Value,Bw w (putN (putN x.drew (w.heap.size+1) 0 xs) (w.heap.size+1+1) 0 ys)):=fun xs ys=>ZL (ZL (zh (uh HBZ) (uh A)) (by omega) _ _) (by omega) _ _;have HG:Hid (∀ xs ys:List Value,Z3 (putN (putN x.drew (w.heap.size+1) 0 xs) (w.heap.size+1+1) 0 ys) 0 (.slice a3 i.ops.length n3) i.ops):=fun xs ys=>UH (UH (ZB (uh HOZ) (uh A)) (uh H).k1 (by decide) _ _) ((ZO (by omega) _ _).trans (uh H).k2) (by decide) _ _;go_wp2;change bodyPost _ _ _ _ _ (putN (putN x (w.heap.size+1) 0 [_,_,_,_,_]) (w.heap.size+1+1) 0 [_,_,_,_]).drew;rw[← GD,← GD];refine bodyPost_ret (FW (w:=x.drew) rfl _ [_,_,_,_,_] [_,_,_,_] rfl rfl rfl (uh H).k1 (uh H).k2 (by omega) rfl rfl rfl underlying68 rfl (by kernel_rfl) underlying30 rfl (by kernel_rfl)) rfl ?_;rw[uh HX2];exact⟨_,_,_,rfl,uh Y _ (uh HF _ _),uh HG _ _,uh hrt',uh HF _ _⟩))
theorem Cj(tch:List Bs)(base:Int):∀ (l:List zl) (no:Int),(∀ j (h:j<l.length),l[j].no=no - j)->Jz tch base no l=(decide (base+1<no+1 - l.length) || l.any fun m=>decide (base<m.no) && qD tch m.touched)
 | [],no,_=>by
  simp only[Jz,List.any_nil,Bool.or_false,yD];exact decide_eq_decide.2 (by omega)
 | m :: r,no,h=>by
  have h0:m.no=no:=by have:=h 0 (by simp);simpa using this
  have d:∀ j (a:j<r.length),r[j].no=no - 1 - j:=fun j a=>by
   have f:=h (j+1) (by simp;omega);rw[List.getElem_cons_succ]at f;omega
  have i:=Cj tch base r (no - 1) d;simp only[Jz,List.any_cons,yn,h0];rw[i];by_cases b:base<no
  ·rw[yj b,show decide (base+1<no+1 - ((r.length+1:Nat):Int))=decide (base+1<no - 1+1 - (r.length:Int))from decide_eq_decide.2 (by omega)]
   cases qD tch m.touched<;>cases decide (base+1<no - 1+1 - (r.length:Int))<;>simp
  ·have g:(r.any fun m=>decide (base<m.no) && qD tch m.touched)=false:=by
    rw[List.any_eq_false];intro x hx;obtain⟨j,a,rfl⟩:=List.getElem_of_mem hx;have:=d j a;rw[yk (by omega)];simp
   rw[yk b,g,yk (show ¬ base+1<no+1 - ((r.length+1:Nat):Int) by omega)];simp
theorem zfA{vs l0:List zl}{m0:zl}(hs:q9 vs=true)(hl:vs.reverse=m0 :: l0)(tch:List Bs)(base:Int):Jz tch base m0.no vs.reverse=meets vs tch base:=by
 obtain⟨f,-,-,-,i⟩:=Wd.1 hs;have b:∀ j (hj:j<vs.length),vs[j].no=vs[0].no+j:=fun j hj=>by
  have:=i j hj;simp only[qN,Bool.and_eq_true,yC]at this;exact this.1.1
 have k:m0.no=vs[0].no+((vs.length - 1:Nat):Int):=by
  have d:vs.reverse[0]'(by rw[List.length_reverse];exact f)=m0:=by simp[hl]
  rw[List.getElem_reverse]at d;rw[← d];exact b _ _
 have g:=Cj tch base vs.reverse m0.no (fun j hj=>by
  rw[List.length_reverse]at hj;rw[List.getElem_reverse,b _ (by omega)];omega)
 rw[g,List.any_reverse,List.length_reverse];unfold meets;congr 1;have h:(vs.head?.map (·.no)).getD 0=vs[0].no:=by
  cases vs with
  | nil=>exact absurd f (by simp)
  | cons a r=>rfl
 rw[h];exact decide_eq_decide.2 (by omega)
structure DV(g h:Nat)(o:Value)(b t:Int)(d:Bs)(rt:Value)(k c q n:Int)(w:Wo):Prop where
 k0:w.heap[g]?=some (.cells #[o,.int .i64 b,.string d,.int .i64 t,rt] 68 (0,0))
 k1:w.heap[h]?=some (.cells #[.int .i64 k,.int .i64 c,.int .i64 q,.int .i64 n] 30 (0,0))
theorem DV.next{g h:Nat}{o:Value}{b t:Int}{d:Bs}{rt:Value}{k c q n:Int}{w w':Wo}(H:DV g h o b t d rt k c q n w)(hb:Bw w w'):DV g h o b t d rt k c q n w':=
 ⟨(hb.block g (yB.1 H.k0).1).trans H.k0,(hb.block h (yB.1 H.k1).1).trans H.k1⟩
theorem DV.cs{g h:Nat}{o:Value}{b t:Int}{d:Bs}{rt:Value}{k c q n:Int}{w:Wo}(H:DV g h o b t d rt k c q n w):w.cell? ⟨g,0,none⟩=some o/\w.cell? ⟨g,1,none⟩=some (.int .i64 b)/\w.cell? ⟨g,2,none⟩=some (.string d)/\w.cell? ⟨g,3,none⟩=some (.int .i64 t)/\w.cell? ⟨g,4,none⟩=some rt/\w.cell? ⟨h,0,none⟩=some (.int .i64 k)/\w.cell? ⟨h,1,none⟩=some (.int .i64 c)/\w.cell? ⟨h,2,none⟩=some (.int .i64 q)/\w.cell? ⟨h,3,none⟩=some (.int .i64 n):=
 ⟨yF H.k0 0,yF H.k0 1,yF H.k0 2,yF H.k0 3,yF H.k0 4,yF H.k1 0,yF H.k1 1,yF H.k1 2,yF H.k1 3⟩
theorem Zm.putT{w:Wo}{A S:Nat->Prop}{g:Nat}{cs:Array Value}{T:TypeId}(hk:w.heap[g]?=some (.cells cs T (0,0)))(hT:T≠109)(hS:∀ b,S b->b≠g)(xs:List Value)(o:Nat):∀ {l:List zl} {v:Value},Zm w A S l v->Zm (putN w g o xs) A S l v
 | [],_,h=>h
 | m :: r,v,h=>by
  obtain⟨b,q,t,p,v',bl,jv,h1,h2,h3,h4,h4',h5,h6,h7,h8⟩:=h;have a:b≠g:=fun e=>by
   subst e;rw[hk]at h3;injection h3 with h3;injection h3 with _ h _;exact hT h
  exact⟨b,q,t,p,v',bl,jv,h1,h2,(ZO a xs o).trans h3,h4.keep (fun x hx=>ZO (hS x (h4' x hx)) xs o),h4',h5,h6,zi.keep (fun k hk=>ZO (hS k hk) xs o) (fun _ hk=>hk) _ _ h7,Zm.putT hk hT hS xs o h8⟩
theorem zfB(s o:Value)(vs:List zl)(p:ZP)(bl cl:List Nat)(w:Wo)(h:zk zT w s vs bl)(ho:zk Zh w o p.ops cl)(hs:ZG vs<=1048576)(hz:Z4 p.ops<=1048576)(hd:p.doc.size<=1048576)(hw:Qh w)(hg:YD w):
  Calls prog 18 #[.agg #[s],.agg #[o,.int .i64 p.base,.string p.doc,.int .i64 p.tries]] w (Uy (Ju vs p) w):=by
 obtain⟨xa,xc,rfl,-,-⟩:=h.form;obtain⟨oa,oc,rfl,-,-⟩:=ho.form;have hA:=AW.new w (.slice xa vs.length xc) (.slice oa p.ops.length oc) p;have HS:=zb (zcV _ vs bl _ (h.below hA.2) hs (hw.up hA.2));have hin:=K6 hz;have hol:p.ops.length<=1048576:=by unfold Z4 at hz;omega
 have HO:=zb ho;have HW:Hid (∀ wx,Bw w wx->Qh wx/\YD wx):=fun wx hx=>⟨hw.up hx,hg.up hx⟩;have HI:Hid (ZG vs<=1048576/\Z4 p.ops<=1048576/\p.doc.size<=1048576/\Xa p.ops):=⟨hs,hz,hd,hin,hol⟩;clear h ho hs hz hd hw hg hin hol;go_in;go_wp2_with fail;generalize ((((w.alloc _).alloc _).alloc _).alloc _).alloc _=wA at *;obtain⟨hA1,hA2⟩:=hA;refine (uh HS).mono ?_;rintro e w1 ⟨b1,y,g⟩;have E:=zb (hA1.next b1);have G:=zb (zh hA2 b1);clear HS b1 hA1 hA2
 cases hok:q9 vs with
 | false=>
  obtain rfl:=y hok;have HX:=zb (MS (p:=p) hok);obtain⟨c2,⟨p0,p1,p2,p3⟩,⟨v0,v1,v2,v3⟩,f2,f3,f4⟩:=(uh E).ac;clear hok y g;go_wp2;refine bodyPost_ret (Vk rfl (uh E) rfl rfl rfl rfl) rfl ?_;rw[uh HX];exact Vl (a:=YA) (uh G) (Nat.lt_succ_self _) (zk.nil _ _) (Zj.nil _) (Yz _ _)
 | true=>
  obtain⟨hv,rfl,hch⟩:=g hok;obtain⟨k,d,r,hl,h8,N⟩:=MG hok;have hX:=MT (p:=p) hok N;obtain⟨z,hp,hnos,hn0,hn1⟩:=M2 hok;have hnk:0<=vs[k].no/\vs[k].no<=2000000:=by have:=hnos k d;exact⟨by omega,by omega⟩
  have hcm:=zfA hok N (Zk p.ops) p.base;obtain⟨J,hi2,K,v⟩:=uh HI;have hB:=M0 (m:=vs[k]) h8 J v.1 K v.2;generalize vs[k]=m at *;have hch0:=hch;rw[N,Qx]at hch0;obtain⟨D,q,t,pp,nx,ib,jv,rfl,-,hkb,-,hrr,-,hrep,-⟩:=hch0;have HRP:=zb (zfv D m.no m.doc q nx (.iface t pp) _ p cl w1 hkb ((uh HO).below (uh G)) v K (uh HW w1 (uh G)).1);have HCH:=zb hch;have HKB:=zb hkb;have HRR:=zb hrr;have HRE:=zb hrep;have U:=zb N;have HCM:=zb hcm;have T:=zb hnk;have HBB:=zb hB;have HX:=zb hX;obtain⟨q0,q1,q2,q3⟩:=Zt.of (uh E).k1;clear y g hok hch hkb hrr hrep N hcm hnk hB hX hl h8 d hp hnos hn0 hn1 J hi2 K v;go_wp2_with fail;refine (uh HRP).mono ?_;rintro e B ⟨b3,y,g⟩;have R:=zb ((uh E).next b3);have HB3:=zb (zh (uh G) b3);have H:=zb b3;clear HRP b3 q0 q1 q2 q3 E
  cases hpk:Q1 m.no p with
  | false=>
   obtain rfl:=y hpk;have HY:Hid (Ju vs p=YA):=by show _=_;rw[uh HX,hpk];rfl
   have hN:=zu B (.cells #[.slice none 0 0,.int .i64 0,.string ⟨#[]⟩,.int .i64 0,.nilIface] 68);have F:=zb ((uh R).next hN);have S:=zb (zh (uh HB3) hN);obtain⟨c2,⟨p0,p1,p2,p3⟩,⟨v0,v1,v2,v3⟩,f2,f3,f4⟩:=(uh F).ac;clear hpk y g hN;go_wp2;refine bodyPost_ret (Vk rfl (uh F) rfl rfl rfl rfl) rfl ?_;rw[uh HY];exact Vl (a:=YA) (uh S) (Nat.lt_succ_self _) (zk.nil _ _) (Zj.nil _) (Yz _ _)
  | true=>
   obtain⟨jd,td,rd,hr1,hr2,rfl,hr3⟩:=g hpk;have HY:Hid (Ju vs p=qA vs m p):=by show _=_;rw[uh HX,hpk];rfl
   have hPK:0<=p.base/\p.base<=m.no/\0<=p.tries/\p.tries<=4:=by
    simp only[Q1,Bool.and_eq_true,decide_eq_true_eq]at hpk;exact⟨hpk.1.1.1.1.2,hpk.1.1.1.2,hpk.1.2,hpk.2⟩
   have hN:=zu B (.cells #[.slice oa p.ops.length oc,.int .i64 p.base,.string p.doc,.int .i64 p.tries,.iface td rd] 68);have kD:=yG B (.cells #[.slice oa p.ops.length oc,.int .i64 p.base,.string p.doc,.int .i64 p.tries,.iface td rd] 68);have zD:(B.alloc (.cells #[.slice oa p.ops.length oc,.int .i64 p.base,.string p.doc,.int .i64 p.tries,.iface td rd] 68)).heap.size=B.heap.size+1:=by simp
   have W:=zh (uh H) hN;have u:=zh (uh HB3) hN;have hS:∀ k,k<B.heap.size->k<(B.alloc (.cells #[.slice oa p.ops.length oc,.int .i64 p.base,.string p.doc,.int .i64 p.tries,.iface td rd] 68)).heap.size:=fun k d=>by omega
   have hc4:Zm (B.alloc (.cells #[.slice oa p.ops.length oc,.int .i64 p.base,.string p.doc,.int .i64 p.tries,.iface td rd] 68)) (fun _=>True) (fun k=>k<B.heap.size) vs.reverse (.pointer (some ⟨D,0,none⟩)):=
    Zm.up W (fun k d=>d) (fun k d=>yE d (uh H).size) (Qx.toG (ye _) (uh HCH))
   have M:zi (B.alloc (.cells #[.slice oa p.ops.length oc,.int .i64 p.base,.string p.doc,.int .i64 p.tries,.iface td rd] 68)) (fun k=>k<B.heap.size) jd (.iface td rd):=zi.keep (fun k d=>hN.block k d) (fun _ d=>d) _ _ hr3;obtain⟨J,hi2,K,v⟩:=uh HI;have L:=(uh HO).below u;have hT:∀ wx,Bw w wx->Calls prog 111 #[.slice oa p.ops.length oc] wx fun e w'=>∃ r,e= .returned r/\OT w' wx.heap.size r (ZF p.ops)/\Bw wx w':=fun wx hx=>zdc _ p.ops cl wx ((uh HO).below hx) hi2 (uh HW wx hx).1;have HAT:=zb (zfz (fun k=>k<B.heap.size) vs vs.reverse m r (uh U) rfl _ _ p td rd cl _ hS hc4 L hPK.2.2.1 hPK.2.2.2 (uh HCM)
    (fun wx hx=>zfs _ vs.reverse m r (uh U) _ _ p td rd jd cl wx (fun k d=>yE (hS k d) hx.size) (Zm.up hx hS (fun _ d=>d) hc4) (L.below hx) hr1 hr2 (zi.keep (fun k d=>hx.block k (hS k d)) (fun _ d=>d) _ _ M) (uh T).1 (uh T).2 (fun wy hy=>hT wy (zh (zh u hx) hy)))
    (fun wx hx=>zfr _ vs.reverse m r (uh U) _ _ p _ cl wx (Zm.up hx hS (fun _ d=>d) hc4) (L.below hx) (.inr ⟨_,_,rfl⟩) hPK.1 (uh T).2 (fun wy hy=>hT wy (zh (zh u hx) hy))
     (fun wy xa ya xb xo xc yb yo yc b hy h1 h2 hm=>Ab _ _ _ _ _ _ _ _ _ b wy (uh HW wy (zh (zh u hx) hy)).1.ml h1 h2 (Pz v.1) (by obtain⟨m,hm,rfl⟩:=hm;exact Ux J (List.mem_reverse.1 hm))))
    (fun wx hx=>zfp D m.no m.doc q nx t pp jv _ p.ops 0 (p.tries+1) wx (((zh W hx).block D (yB.1 (uh HKB)).1).trans (uh HKB)) (uh HRR) ((show zO w1 jv (.iface t pp)from uh HRE).next (zh W hx)) (MU (L.below hx)) v (uh HW wx (zh u hx)).1 (uh HW wx (zh u hx)).2))
   have F:=zb ((uh R).next hN);have S:=zb u;have HKD:=zb kD;have V:=zb zD;have HGD:=zb (uh R).lt;have HBB2:=zb (uh HBB);clear y g hpk hr1 hr2 hr3 hN kD zD W u hS hc4 M J hi2 K v L hT hPK HX HCH HKB HRR HRE U HCM T HBB HI HO R HB3 H G HW;generalize qA vs m p=a at *;obtain⟨avs,⟨f,ab,ad,C⟩,ak,ac,aq,an⟩:=a;go_wp2_with fail;generalize B.alloc _=w4 at *;generalize B.heap.size=i at *;refine (uh HAT).mono ?_;rintro e A ⟨v5,o5,rt,rfl,Z,op5,hrt,b5⟩;simp only at Z op5;obtain⟨P,Q,rfl⟩:=YS op5;obtain⟨av5,rfl⟩:=Z.ptr;have x:=zu A (.cells #[.int .i64 0,.int .i64 0,.int .i64 0,.int .i64 0] 30);have kN5:=yG A (.cells #[.int .i64 0,.int .i64 0,.int .i64 0,.int .i64 0] 30);have h45:=b5.size;have hzD:=uh V;have hgD:=uh HGD;have O:=(x.block i (by omega)).trans ((b5.block i (by omega)).trans (uh HKD));obtain⟨wY,l⟩:∃ wY,wY=putN (A.alloc (.cells #[.int .i64 0,.int .i64 0,.int .i64 0,.int .i64 0] 30)) i 0 [.slice P f.length Q,.int .i64 ab,.string ad,.int .i64 C,rt]:=⟨_,rfl⟩;obtain⟨j,n⟩:∃ j,j=putN wY A.heap.size 0 [.int .i64 ak,.int .i64 ac,.int .i64 aq,.int .i64 an]:=⟨_,rfl⟩;have kY0:wY.heap[i]?=some (.cells #[.slice P f.length Q,.int .i64 ab,.string ad,.int .i64 C,rt] 68 (0,0)):=by rw[l];exact qV O _ rfl
   have kYN:wY.heap[A.heap.size]?=some (.cells #[.int .i64 0,.int .i64 0,.int .i64 0,.int .i64 0] 30 (0,0)):=by rw[l];exact (ZO (by omega) _ _).trans kN5
   have HDV:Hid (DV i A.heap.size (.slice P f.length Q) ab C ad rt ak ac aq an j):=by
    show DV _ _ _ _ _ _ _ _ _ _ _ _
    rw[n];exact⟨(ZO (by omega) _ _).trans kY0,qV kYN _ rfl⟩
   have HAZ:Hid (AW w.heap.size (.slice xa vs.length xc) (.slice oa p.ops.length oc) p j):=by
    show AW _ _ _ _ _
    rw[n,l];exact (((uh F).next b5).next x).kp fun k _ d=>(ZO (by omega) _ _).trans (ZO (by omega) _ _)
   have HOZ:Hid (Z3 j 0 (.slice P f.length Q) f):=by
    show Z3 _ _ _ _
    rw[n];refine UH ?_ kYN (by decide) _ _;rw[l];exact UH (ZB op5 x) O (by decide) _ _
   have HCZ:Hid (Zm j (fun _=>True) (SN (fun k=>k<i) w4.heap.size A.heap.size) avs.reverse (.pointer av5)):=by
    show Zm _ _ _ _ _
    rw[n];refine Zm.putT kYN (by decide) (fun b D=>?_) _ _ ?_
    ·rcases D with D | D<;>omega
    ·rw[l];refine Zm.putT O (by decide) (fun b D=>?_) _ _ ?_
     ·rcases D with D | D<;>omega
     ·exact Zm.up x (fun k d=>by rcases d with d | d<;>omega) (fun _ d=>d) Z
   have HBZ:Hid (Bw w j):=by
    show Below _ _ _
    rw[n,l];exact ZL (ZL (zh (zh (uh S) b5) x) (by omega) _ _) (by omega) _ _
   have hzZ:j.heap.size=A.heap.size+1:=by rw[n,l,UG,UG];simp
   have HZ5:Hid (w.heap.size+1+1+1+1<i/\i<A.heap.size/\∀ k,SN (fun k=>k<i) w4.heap.size A.heap.size k->k<j.heap.size):=⟨hgD,by omega,fun k d=>by rcases d with d | d<;>omega⟩;rw[l]at n;have HWZ:=zb n;obtain⟨g0,g1,g2,g3,g4⟩:=QC.of ((x.block i (by omega)).trans ((b5.block i (by omega)).trans (uh HKD)));have fD:=yI O;obtain⟨e0,e1,e2,e3⟩:=Zt.of kN5;have fN:=yI kN5;have nd:¬ i=A.heap.size:=by omega
   have nd':¬ A.heap.size=i:=by omega
   have hrt':=hrt;have HRT:=zb hrt';clear HAT Z op5 b5 x kN5 h45 hzD hgD O n l kY0 kYN hzZ hrt' F S HKD V HGD;rcases hrt with rfl |⟨t3,p3,rfl⟩
   all_goals (
    go_wp2_with fail;change Code.wp _ _ _ _ (putN (putN (A.alloc _) i 0 [_,_,_,_,_]) A.heap.size 0 [_,_,_,_]);rw[← uh HWZ]
    first | generalize Value.iface t3 p3=rt at * | generalize Value.nilIface=rt at *
    clear g0 g1 g2 g3 g4 e0 e1 e2 e3 fD fN nd nd' HWZ;generalize A.heap.size=gN at *;have I:Bw j j.drew:=(yH _ _).drew;have hz5:=uh HZ5;have hb9:=uh HBB2;have HT1:=zb (zc1 _ avs.reverse _ j.drew (Zm.up I hz5.2.2 (fun _ d=>d) (uh HCZ)) (by have:=hb9.len;simp only[List.length_reverse]at *;omega) (fun m hm=>by have:=hb9.tch m (List.mem_reverse.1 hm);omega));rw[List.reverse_reverse]at HT1;have HT2:Hid (∀ wx,Bw j wx->Calls prog 28 _ wx _):=fun wx hx=>zfn _ f 0 ab C ad _ wx (ZB (uh HOZ) hx) (by have:=hb9.ops;simp only at this;omega) (uh HRT);have HDS:=zb (fun wx (hx:Bw j wx)=>((uh HDV).next hx).cs);have S0:=zb (uh HDS _ I);have d1':¬ w.heap.size+1+1=i:=by omega
    have d2':¬ w.heap.size+1+1+1=i:=by omega
    have d3':¬ w.heap.size+1+1+1+1=i:=by omega
    have V:Hid (w.heap.size+1+1+1+1<j.drew.heap.size):=((uh HAZ).next I).lt;have HDR:=zb I;have n1':¬ w.heap.size+1+1=gN:=by omega
    have n2':¬ w.heap.size+1+1+1=gN:=by omega
    have n3':¬ w.heap.size+1+1+1+1=gN:=by omega
    clear hz5 hb9 I HCZ HOZ;go_region_held3 (fun w'=>w'.cell? ⟨i,0,none⟩=some (.slice P f.length Q)/\w'.cell? ⟨i,1,none⟩=some (.int .i64 ab)/\w'.cell? ⟨i,2,none⟩=some (.string ad)/\w'.cell? ⟨i,3,none⟩=some (.int .i64 C)/\w'.cell? ⟨i,4,none⟩=some rt/\w'.cell? ⟨gN,0,none⟩=some (.int .i64 ak)/\w'.cell? ⟨gN,1,none⟩=some (.int .i64 ac)/\w'.cell? ⟨gN,2,none⟩=some (.int .i64 aq)/\w'.cell? ⟨gN,3,none⟩=some (.int .i64 an))
     (first | with_reducible exact uh S7 | with_reducible exact uh S6 | with_reducible exact uh S0 |(simp only[Qw n1',Qw n2',Qw n3',Qw d1',Qw d2',Qw d3'];with_reducible exact uh S7))
     (first
     |(
       go_simp;refine (uh HT3).mono ?_;rintro e w7 ⟨v7,rfl,o7,b7⟩;obtain⟨a7,n7,rfl⟩:=YS o7;have Y:=zh X b7;have hA7:=(uh HAZ).next Y;obtain⟨c2,⟨p0,p1,p2,p3⟩,⟨v0,v1,v2,v3⟩,f2,f3,f4⟩:=hA7.ac;have S7:=zb (uh HDS w7 Y))
     |(
       go_simp;refine (uh HT1).mono ?_;rintro e w6 ⟨v6,bl6,rfl,o6,f6,b6⟩;obtain⟨a6,n6,rfl,-,-⟩:=o6.form;have X:Bw j w6:=⟨b6.os,b6.tape,b6.output,b6.size,b6.block⟩;have S6:=zb (uh HDS w6 X);have HT3:=zb (uh HT2 w6 X)))
    all_goals (
     have HA7:=zb hA7;have HO7:=zb o7;have HB7:=zb (zh (uh HBZ) Y);have HV7:=zb (o6.below b7);have HF7:=zb f6;have HS7:Hid (j.drew.heap.size<=w6.heap.size):=b6.size;clear hA7 o7 Y b7 o6 f6 b6 X HT1 HT2 HT3 HDV HAZ HBZ;go_wp2;refine bodyPost_ret (Vk rfl (uh HA7) rfl rfl rfl rfl) rfl ?_;rw[uh HY];exact Vl (a:=⟨avs,⟨f,ab,ad,C⟩,ak,ac,aq,an⟩) (uh HB7) (uh V) (uh HV7) (uh HF7) (qT (uh HO7) (uh HS7))))
def UI(a:Jk)(x y:Value):Value:=.tuple #[.agg #[x],.agg #[y,.int .i64 a.pn.base,.string a.pn.doc,.int .i64 a.pn.tries],.agg #[.int .i64 a.kind,.int .i64 a.code,.int .i64 a.pos,.int .i64 a.no]]
theorem zfC{a:Jk}(x y x' y':Value)(h:UI a x y=UI a x' y'):x=x'/\y=y':=by
 unfold UI at h;injection h with h;injection h with h;injection h with h1 h;injection h with h2 h;injection h1 with h1;injection h1 with h1;injection h1 with h1;injection h2 with h2;injection h2 with h2;injection h2 with h2;exact⟨h1,h2⟩
theorem Ru{w:Wo}{g:Nat}{cs:Array Value}{t:TypeId}(hk:w.heap[g]?=some (.cells cs t (0,0)))(xs:List Value)(hl:xs.length=cs.size):VP g (.cells xs.toArray t (0,0)) w (putN w g 0 xs):=by
 have a:Below 0 w (putN w g 0 xs):=ZL ⟨rfl,rfl,rfl,ye _,fun _ _=>rfl⟩ (yt _) xs 0;exact⟨qV hk xs hl,fun k hn=>ZO hn xs 0,UG xs 0,a.os,a.tape,a.output⟩
def GR(a:Jk)(B:Nat)(x y:Value)(w:Wo):Prop:=(∃ l,zk zT w x a.vs l/\Zj B l)/\Z3 w B y a.pn.ops
theorem GR.next{a:Jk}{B:Nat}{x y:Value}{w w':Wo}(h:GR a B x y w)(hb:Bw w w'):GR a B x y w':=by
 obtain⟨⟨l,b,d⟩,f⟩:=h;exact⟨⟨l,b.below hb,d⟩,ZB f hb⟩
theorem zfD{w:Wo}{B g:Nat}{v:Value}{ms:List zw}{cs:Array Value}{T:TypeId}(h:Z3 w B v ms)(hk:w.heap[g]?=some (.cells cs T (0,0)))(hT:T≠95):∀ b,v.ownBlock=some b->b≠g:=fun b hb e=>by
 subst e;rcases h with ⟨_,⟨rfl,_⟩ |⟨j,f,i,rfl,_,a,_⟩⟩
 ·cases hb
 ·have d:j=b:=by injection hb
  rw[d,hk]at a;injection a with a;injection a with _ h2 _;exact hT h2
theorem GR.put{a:Jk}{B:Nat}{x y:Value}{w w':Wo}{g:Nat}{cs ds:Array Value}{t:TypeId}(h:GR a B x y w)(hg:w.heap[g]?=some (.cells cs t (0,0)))(ht:t=35∨t=28∨t=30)(hp:VP g (.cells ds t (0,0)) w w'):GR a B x y w':=by
 obtain⟨⟨l,d,i⟩,f⟩:=h;have j:g ∉ l:=Wy hg (Wx d) (by rcases ht with rfl | rfl | rfl<;>decide);refine⟨⟨l,d.keep fun b hb=>hp.other b fun e=>j (e ▸ hb),i⟩,GW f fun b hb=>hp.other b (zfD f hg (by rcases ht with rfl | rfl | rfl<;>decide) b (by simpa using hb))⟩
structure VX(gs gp g6 g7 g8 g9 g10 g11 g12 g13:Nat)(q o v6 v7 v9 v10 v11 v12:Value)(p:ZP)(a:Jk)(l6 l7 l9 l10 l11 l12:List Nat)(m9:List zl)(m10:List zw)(m11:List zl)(m12:List zw)(w:Wo):Prop where
 e0:w.heap[gs]?=some (.cells #[q] 24 (0,0))
 e1:w.heap[gp]?=some (.cells #[o,.int .i64 p.base,.string p.doc,.int .i64 p.tries] 45 (0,0))
 e6:w.heap[g6]?=some (.cells #[v6] 35 (0,0))
 e7:w.heap[g7]?=some (.cells #[v7,.int .i64 a.pn.base,.string a.pn.doc,.int .i64 a.pn.tries] 28 (0,0))
 e8:w.heap[g8]?=some (.cells #[.int .i64 a.kind,.int .i64 a.code,.int .i64 a.pos,.int .i64 a.no] 30 (0,0))
 e9:w.heap[g9]?=some (.cells #[v9] 35 (0,0))
 e10:w.heap[g10]?=some (.cells #[v10,.int .i64 p.base,.string p.doc,.int .i64 p.tries] 28 (0,0))
 e11:w.heap[g11]?=some (.cells #[v11] 35 (0,0))
 e12:w.heap[g12]?=some (.cells #[v12,.int .i64 a.pn.base,.string a.pn.doc,.int .i64 a.pn.tries] 28 (0,0))
 e13:w.heap[g13]?=some (.cells #[.int .i64 a.kind,.int .i64 a.code,.int .i64 a.pos,.int .i64 a.no] 30 (0,0))
 r6:zk zT w v6 a.vs l6
 r7:zk Zh w v7 a.pn.ops l7
 r9:zk zT w v9 m9 l9
 r10:zk Zh w v10 m10 l10
 r11:zk zT w v11 m11 l11
 r12:zk Zh w v12 m12 l12
section
variable {gs gp g6 g7 g8 g9 g10 g11 g12 g13:Nat} {q o v6 v7 v9 v10 v11 v12:Value} {p:ZP} {a:Jk} {l6 l7 l9 l10 l11 l12:List Nat} {m9:List zl} {m10:List zw} {m11:List zl} {m12:List zw} {w w':Wo}
theorem VX.below(h:VX gs gp g6 g7 g8 g9 g10 g11 g12 g13 q o v6 v7 v9 v10 v11 v12 p a l6 l7 l9 l10 l11 l12 m9 m10 m11 m12 w)(hb:Bw w w'):VX gs gp g6 g7 g8 g9 g10 g11 g12 g13 q o v6 v7 v9 v10 v11 v12 p a l6 l7 l9 l10 l11 l12 m9 m10 m11 m12 w':=by
 have k:∀ {g:Nat} {o:Obj},w.heap[g]?=some o->w'.heap[g]?=some o:=fun e=>(hb.block _ (yB.1 e).1).trans e;exact⟨k h.e0,k h.e1,k h.e6,k h.e7,k h.e8,k h.e9,k h.e10,k h.e11,k h.e12,k h.e13,h.r6.below hb,h.r7.below hb,h.r9.below hb,h.r10.below hb,h.r11.below hb,h.r12.below hb⟩
theorem VX.cp(h:VX gs gp g6 g7 g8 g9 g10 g11 g12 g13 q o v6 v7 v9 v10 v11 v12 p a l6 l7 l9 l10 l11 l12 m9 m10 m11 m12 w):w.cell? ⟨g10,0,none⟩=some v10/\w.cell? ⟨g10,1,none⟩=some (.int .i64 p.base)/\w.cell? ⟨g10,2,none⟩=some (.string p.doc)/\w.cell? ⟨g10,3,none⟩=some (.int .i64 p.tries)/\w.cell? ⟨gp,0,none⟩=some o/\w.cell? ⟨gp,1,none⟩=some (.int .i64 p.base)/\w.cell? ⟨gp,2,none⟩=some (.string p.doc)/\w.cell? ⟨gp,3,none⟩=some (.int .i64 p.tries):=⟨yF h.e10 0,yF h.e10 1,yF h.e10 2,yF h.e10 3,yF h.e1 0,yF h.e1 1,yF h.e1 2,yF h.e1 3⟩
theorem VX.fr {l:List Nat} {n9:List zl} {n10:List zw} {n11:List zl} {n12:List zw} (h:VX gs gp g6 g7 g8 g9 g10 g11 g12 g13 q o v6 v7 v9 v10 v11 v12 p a l6 l7 l9 l10 l11 l12 m9 m10 m11 m12 w) (hf:Fr l w w') (hn:∀ g∈[gs,gp,g6,g7,g8,g9,g10,g11,g12,g13],g ∉ l) (d6:∀ b∈l6,b ∉ l) (d7:∀ b∈l7,b ∉ l)
  (r9:((∀ b∈l9,b ∉ l)/\n9=m9)∨zk zT w' v9 n9 l9) (r10:((∀ b∈l10,b ∉ l)/\n10=m10)∨zk Zh w' v10 n10 l10) (r11:((∀ b∈l11,b ∉ l)/\n11=m11)∨zk zT w' v11 n11 l11) (r12:((∀ b∈l12,b ∉ l)/\n12=m12)∨zk Zh w' v12 n12 l12):
  VX gs gp g6 g7 g8 g9 g10 g11 g12 g13 q o v6 v7 v9 v10 v11 v12 p a l6 l7 l9 l10 l11 l12 n9 n10 n11 n12 w':=by
 have k:∀ {g:Nat} {o:Obj},g ∉ l->w.heap[g]?=some o->w'.heap[g]?=some o:=fun hg e=>(hf.block _ (yB.1 e).1 hg).trans e;have d:∀ {α:Type} {e:QR α} {v:Value} {xs:List α} {bl:List Nat},zk e w v xs bl->(∀ b∈bl,b ∉ l)->zk e w' v xs bl:=fun ho hd=>ho.keep fun b hb=>hf.block b (ho.lt b hb) (hd b hb);simp only[List.mem_cons,List.not_mem_nil,or_false,forall_eq_or_imp,forall_eq]at hn;obtain⟨r,s,u,x,y,n,f,i,j,m⟩:=hn;exact⟨k r h.e0,k s h.e1,k u h.e6,k x h.e7,k y h.e8,k n h.e9,k f h.e10,k i h.e11,k j h.e12,k m h.e13,d h.r6 d6,d h.r7 d7,r9.elim (fun h9=>h9.2 ▸ d h.r9 h9.1) id,r10.elim (fun h9=>h9.2 ▸ d h.r10 h9.1) id,r11.elim (fun h9=>h9.2 ▸ d h.r11 h9.1) id,r12.elim (fun h9=>h9.2 ▸ d h.r12 h9.1) id⟩
end
theorem Ck {Q:Exit->Act->Wo->Prop} {id:Nat} {a0:Act} {w:Wo} {ops:Array Oper} {d0 d1 d2 d3 d4 d5 d6 d7 d8 d9 d10 d11 tA tB:Tmp} {o4:Oper} {f4:FuncId} {y0 y1 y2 y3 y5 y6 y7 y8 y9 y10 y11 y12 y13 y14:TypeId} {s0 s1 s2 s3 s5 s6 s7 s8 s9 s10 s11 s12 s13 s14:String} {b0 b1 b2 b3 b5 b6 b7 b8 b9 b10 b11 b12 b13 b14:Array Edge} {i1 i3:Array TypeId}
  {gs gp:Nat} {q o:Value} {ms:List zl} {p:ZP} {a:Jk}
  (ho:ops=#[⟨some d0,.load 24 (.tmp tA),y0,s0,b0,none⟩,⟨some d1,.call {callee:=.value (.func 7),args:=#[.tmp d0],argTypes:=i1},y1,s1,b1,none⟩,⟨some d2,.load 45 (.tmp tB),y2,s2,b2,none⟩,⟨some d3,.call {callee:=.value (.func 17),args:=#[.tmp d2],argTypes:=i3},y3,s3,b3,none⟩,o4,⟨some d5,.move (.tmp d4),y5,s5,b5,none⟩,⟨some d6,.extract (.tmp d5) 0,y6,s6,b6,none⟩,⟨some d7,.extract (.tmp d5) 1,y7,s7,b7,none⟩,⟨some d8,.extract (.tmp d5) 2,y8,s8,b8,none⟩,⟨some d9,.alloc 35,y9,s9,b9,none⟩,⟨some d10,.alloc 28,y10,s10,b10,none⟩,⟨some d11,.alloc 30,y11,s11,b11,none⟩,⟨none,.store 35 (.tmp d9) (.tmp d6),y12,s12,b12,none⟩,⟨none,.store 28 (.tmp d10) (.tmp d7),y13,s13,b13,none⟩,⟨none,.store 30 (.tmp d11) (.tmp d8),y14,s14,b14,none⟩])
  (h4:o4.guard=none/\o4.dst=some d4) (hr4:∀ (b:Act) (w':Wo) (u v:Value),b.eval (.tmp d1)=u->b.eval (.tmp d3)=v->(execOp b.eval o4).run prog w'= .ok (.enter f4 #[u,v]) w')
  (hB:Fd ops=true) (hdp:([(1,0),(3,2),(3,1),(4,1),(4,3),(5,4),(6,5),(7,5),(8,5),(12,9),(12,6),(12,4),(13,10),(13,7),(13,4),(14,11),(14,8),(14,4)].all fun p=>Fe ops p.1 p.2)=true)
  (hn:[d0,d1,d2,d3,d4,d5,d6,d7,d8,d9,d10,d11].Nodup) (hA:tA ∉ [d0,d1,d2,d3,d4,d5,d6,d7,d8,d9,d10,d11]) (hBB:tB ∉ [d0,d1,d2,d3,d4,d5,d6,d7,d8,d9,d10,d11]) (hs:∀ d∈[d0,d1,d2,d3,d4,d5,d6,d7,d8,d9,d10,d11],d<a0.tmps.size)
  (hvA:a0.eval (.tmp tA)= .pointer (some ⟨gs,0,none⟩)) (hvB:a0.eval (.tmp tB)= .pointer (some ⟨gp,0,none⟩)) (kA:w.heap[gs]?=some (.cells #[q] 24 (0,0))) (kB:w.heap[gp]?=some (.cells #[o,.int .i64 p.base,.string p.doc,.int .i64 p.tries] 45 (0,0)))
  (T1:∀ w',Bw w w'->Calls prog 7 #[.agg #[q]] w' fun e w2=>∃ x l,e= .returned (.agg #[x])/\zk zT w2 x ms l/\Zj w'.heap.size l/\Bw w' w2)
  (T3:∀ w',Bw w w'->Calls prog 17 #[.agg #[o,.int .i64 p.base,.string p.doc,.int .i64 p.tries]] w' fun e w2=>∃ x l,e= .returned (.agg #[x,.int .i64 p.base,.string p.doc,.int .i64 p.tries])/\zk Zh w2 x p.ops l/\Zj w'.heap.size l/\Bw w' w2)
  (T4:∀ w' x y l m,Bw w w'->zk zT w' x ms l->zk Zh w' y p.ops m->Calls prog f4 #[.agg #[x],.agg #[y,.int .i64 p.base,.string p.doc,.int .i64 p.tries]] w' (Uy a w'))
  (hK:∀ (w':Wo) (x y u v:Value) (g6 g7 g8:Nat),Bw w w'->GR a w.heap.size x y w'->w.heap.size<=g6->w.heap.size<=g7->w.heap.size<=g8->w'.heap[g6]?=some (.cells #[x] 35 (0,0))->w'.heap[g7]?=some (.cells #[y,.int .i64 a.pn.base,.string a.pn.doc,.int .i64 a.pn.tries] 28 (0,0))->w'.heap[g8]?=some (.cells #[.int .i64 a.kind,.int .i64 a.code,.int .i64 a.pos,.int .i64 a.no] 30 (0,0)) ->
   Q .normal ((((((((((((a0.put (some d0) (.agg #[q])).put (some d1) u).put (some d2) (.agg #[o,.int .i64 p.base,.string p.doc,.int .i64 p.tries])).put (some d3) v).put (some d4) (UI a x y)).put (some d5) (UI a x y)).put (some d6) (.agg #[x])).put (some d7) (.agg #[y,.int .i64 a.pn.base,.string a.pn.doc,.int .i64 a.pn.tries])).put (some d8) (.agg #[.int .i64 a.kind,.int .i64 a.code,.int .i64 a.pos,.int .i64 a.no])).put (some d9) (.pointer (some ⟨g6,0,none⟩))).put (some d10) (.pointer (some ⟨g7,0,none⟩))).put (some d11) (.pointer (some ⟨g8,0,none⟩))) w'):
  (Code.region id ops true).wp prog Q a0 w:=by
 subst ho;have B:=(yB.1 kA).1;have C:=(yB.1 kB).1;refine zcf (T:=UI a) (U6:=fun x=>#[x]) (U7:=fun y=>#[y,.int .i64 a.pn.base,.string a.pn.doc,.int .i64 a.pn.tries]) (C8:=#[.int .i64 a.kind,.int .i64 a.code,.int .i64 a.pos,.int .i64 a.no]) (z6:=#[.slice none 0 0]) (z7:=#[.slice none 0 0,.int .i64 0,.string ⟨#[]⟩,.int .i64 0]) (z8:=#[.int .i64 0,.int .i64 0,.int .i64 0,.int .i64 0]) (t6:=35) (t7:=28) (t8:=30)
  (R1:=fun v w=>∃ x l,v= .agg #[x]/\zk zT w x ms l) (R3:=fun v w=>∃ x l,v= .agg #[x,.int .i64 p.base,.string p.doc,.int .i64 p.tries]/\zk Zh w x p.ops l) (R4:=GR a w.heap.size) (s0:=.agg #[q]) (p0:=.agg #[o,.int .i64 p.base,.string p.doc,.int .i64 p.tries]) (tA:=tA) (tB:=tB) (f1:=7) (f3:=17) (f4:=f4)
  (by kernel_rfl) hB hdp (by simp[List.replicate,h4.1]) (by simp[h4.2]) hn hA hBB hs (by decide) (by decide) (by decide) ?_ ?_ (fun x y z w2 h f=>h.next f) (fun x y z w2 g cs ds t h i ht hp=>h.put i ht hp) ?_ ?_ (fun b w' h=>clS b w' _ _ _ _ _ _ _ h) ?_ (fun b w' h=>clP b w' _ _ _ _ _ _ _ h) ?_ hr4 ?_ (fun b w'=>mv0 b w' _ _ _ _ _) (fun b w' x y h=>PD b w' _ _ _ _ _ _ _ _ 0 _ h rfl) (fun b w' x y h=>PD b w' _ _ _ _ _ _ _ _ 1 _ h rfl) (fun b w' x y h=>PD b w' _ _ _ _ _ _ _ _ 2 _ h rfl) (fun b w'=>alS b w' _ _ _ _) (fun b w'=>alP b w' _ _ _ _) (fun b w'=>alV b w' _ _ _ _) ?_ ?_ ?_ hK (fun x y x' y' h=>zfC x y x' y' h)
 ·rintro v z w2 ⟨x,l,rfl,h⟩ f;exact⟨x,l,rfl,h.below f⟩
 ·rintro v z w2 ⟨x,l,rfl,h⟩ f;exact⟨x,l,rfl,h.below f⟩
 ·exact fun b w' f h=>ldS b w' _ _ _ _ _ gs (h.trans hvA) ((f.block gs B).trans kA)
 ·exact fun b w' f h=>ldP b w' _ _ _ _ _ gp (h.trans hvB) ((f.block gp C).trans kB)
 ·refine fun w' f=>(T1 w' f).mono ?_;rintro e w2 ⟨x,l,rfl,h,-,j⟩;exact⟨_,rfl,⟨x,l,rfl,h⟩,j⟩
 ·refine fun w' f=>(T3 w' f).mono ?_;rintro e w2 ⟨x,l,rfl,h,-,j⟩;exact⟨_,rfl,⟨x,l,rfl,h⟩,j⟩
 ·rintro w' u v f ⟨x,l,rfl,h⟩ ⟨y,m,rfl,k⟩;refine (T4 w' x y l m f h k).mono ?_;rintro e w2 ⟨G,F,A,rfl,D,f1,E,b2⟩;exact⟨_,rfl,⟨G,F,rfl,⟨A,D,f1.mono f.size⟩,qT E f.size⟩,b2⟩
 ·intro b w' g x y h n s i;obtain⟨⟨l,r,-⟩,-⟩:=s;obtain⟨H,I,rfl,-,-⟩:=r.form;exact⟨_,stS b w' _ _ _ _ _ g h n ⟨_,_,_,rfl⟩ i,Ru i [_] rfl⟩
 ·intro b w' g x y h n s i;obtain⟨-,r⟩:=s;obtain⟨H,I,rfl⟩:=YS r;exact⟨_,stP b w' _ _ _ _ _ g h n ⟨_,_,_,rfl⟩ i,Ru i [_,_,_,_] rfl⟩
 ·intro b w' g h n i;exact⟨_,stV b w' _ _ _ _ _ g h n i,Ru i [_,_,_,_] rfl⟩
theorem zfE{ms:List zl}(h:ZG ms<=1048576):Zs ZE ms<=1000000000:=by
 have:Zs ZE ms<=2*ZG ms:=by
  clear h;unfold Zs ZG;induction ms with
  | nil=>simp
  | cons m r ih=>
   have:ZE m<=ZZ m+2:=by unfold ZE ZZ YF;omega
   simp only[yi,yL,yn];omega
 omega
theorem zfF{w:Wo}{x y:Value}{vs:List zl}{ms:List zw}{l m:List Nat}{B:Nat}(h:zk zT w x vs l)(k:Z3 w B y ms)(hm:m=y.ownBlock.toList):∀ b∈m,b ∉ l:=by
 intro b g;rw[hm]at g;have a:y.ownBlock=some b:=by simpa using g
 rcases k with ⟨_,⟨rfl,_⟩ |⟨n,i,j,rfl,_,f,_⟩⟩
 ·cases a
 ·have d:n=b:=by injection a
  subst d;exact Wy f (Wx h) (by decide)
theorem zfG(v vp:Value)(ms:List zl)(p:ZP)(w:Wo)(hr:YN w v ms)(hp:YU w vp p)(hdz:p.doc.size<=9223372036854775807)(hw:Qh w)(hg:YD w):
  Calls prog 4 #[v,vp] w fun e w'=>e= .returned (.bool true)/\Bw w w':=by
 obtain⟨q,rfl,hr1⟩:=hr;obtain⟨o,rfl,hp1⟩:=hp;have hA:=Y8 w (Obj.cells #[q] 24) (.cells #[o,.int .i64 p.base,.string p.doc,.int .i64 p.tries] 45);have HS:=zb (zak (.agg #[q]) ms _ (YN.below ⟨q,rfl,hr1⟩ hA.bel));have HP:Hid (∀ (L:Nat) (wx:Wo),L<=1048576->Bw w wx->Calls prog 15 #[.agg #[o,.int .i64 p.base,.string p.doc,.int .i64 p.tries],.int .i64 L] wx (Rb (.int .i64 (Qa L (Z4 p.ops+p.doc.size))) wx)):=fun L wx hL hx=>zcp _ p L wx (YU.below ⟨o,rfl,hp1⟩ hx) hL hdz;have HA:=zb hA;by_cases D:ZG ms<=1048576
 ·rw[Vt D]at HS;have hL1:1048576 - ZG ms<=1048576:=by omega
  have HPL:=zb (fun wx=>uh HP (1048576 - ZG ms) wx hL1);by_cases hpz:Z4 p.ops+p.doc.size<=1048576 - ZG ms
  ·have hso:Z4 p.ops<=1048576:=by omega
   have hdo:p.doc.size<=1048576:=by omega
   have hol:p.ops.length<=1048576:=by unfold Z4 at hso;omega
   have HT:Hid (∀ wx,Bw w wx->Calls prog 7 #[.agg #[q]] wx fun e w'=>∃ p bl,e= .returned (.agg #[p])/\zk zT w' p ms bl/\Zj wx.heap.size bl/\Bw wx w'):=fun wx hx=>zal _ ms wx (YN.below ⟨q,rfl,hr1⟩ hx) D;have HTP:Hid (∀ wx,Bw w wx->Calls prog 17 #[.agg #[o,.int .i64 p.base,.string p.doc,.int .i64 p.tries]] wx fun e w'=>∃ x l,e= .returned (.agg #[x,.int .i64 p.base,.string p.doc,.int .i64 p.tries])/\zk Zh w' x p.ops l/\Zj wx.heap.size l/\Bw wx w'):=fun wx hx=>zcq _ p wx (YU.below ⟨o,rfl,hp1⟩ hx) hso;have HSA:Hid (∀ wx x y l m,zk zT wx x ms l->zk Zh wx y p.ops m->Calls prog 16 #[.agg #[x],.agg #[y,.int .i64 p.base,.string p.doc,.int .i64 p.tries]] wx (Uy (Ju ms p) wx)):=fun wx x y l m h k=>zdk x y ms p l m wx h k D hso hdo
   have HIA:Hid (∀ wx x y l m,Bw w wx->zk zT wx x ms l->zk Zh wx y p.ops m->Calls prog 18 #[.agg #[x],.agg #[y,.int .i64 p.base,.string p.doc,.int .i64 p.tries]] wx (Uy (Ju ms p) wx)):=fun wx x y l m hx h k=>zfB x y ms p l m wx h k D hso hdo (hw.up hx) (hg.up hx);have hB:=zcy D (K6 hso) hdo hol;have HCN:Hid (ZG ms<=1048576/\Zs ZE ms<=1000000000/\p.ops.length<=1048576):=⟨D,zfE D,hol⟩;generalize Ju ms p=a at *;have HBB:=zb hB;rw[Vt hpz]at HPL;have hM:1048576 - ZG ms - (Z4 p.ops+p.doc.size)<=1048576:=by omega
   generalize 1048576 - ZG ms - (Z4 p.ops+p.doc.size)=M at *;generalize 1048576 - ZG ms=L at *;clear hw hg hr1 hp1 D hpz hso hdo hol hA hB HP;go_in;go_wp2_with fail;generalize (w.alloc _).alloc _=wA at *;refine (uh HS).mono ?_;rintro e w1 ⟨rfl,b1⟩;have hz:=(uh HA).size;have k0:=(b1.block w.heap.size (by omega)).trans (uh HA).k0;have k1:=(b1.block (w.heap.size+1) (by omega)).trans (uh HA).k1;have B1:=zh (uh HA).bel b1;obtain⟨c0,c1,c2,c3⟩:=Zt.of k1;have HP1:=zb (uh HPL w1 B1);have HK:=zb (And.intro k0 k1);have U:=zb B1;clear HS b1 k0 k1 B1 HA hz HPL;go_wp2_with fail;refine (uh HP1).mono ?_;rintro e w2 ⟨rfl,b2⟩;have HB2:=zb (zh (uh U) b2);have Q:=zb (And.intro ((b2.block w.heap.size (yB.1 (uh HK).1).1).trans (uh HK).1) ((b2.block (w.heap.size+1) (yB.1 (uh HK).2).1).trans (uh HK).2));clear HP1 b2 c0 c1 c2 c3 HK U;go_wp2_with fail;refine Ck (a:=a) (ms:=ms) (p:=p) (q:=q) (o:=o) (gs:=w.heap.size) (gp:=w.heap.size+1) (f4:=16) rfl ⟨rfl,rfl⟩ (fun b w' u v h h'=>clA b w' _ _ _ _ _ _ u v _ h h') (by kernel_rfl) (by kernel_rfl) (by decide) (by decide) (by decide) (by intro d hd;show d<159;revert d;decide) rfl rfl (uh Q).1 (uh Q).2
    (fun w' hx=>uh HT w' (zh (uh HB2) hx)) (fun w' hx=>uh HTP w' (zh (uh HB2) hx)) (fun w' x y l m hx h k=>uh HSA w' x y l m h k) ?_
   intro w3 v6 v7 u1 u3 g6 g7 g8 b3 hR3 z6 z7 z8 e6 e7 e8;obtain⟨⟨l6,r6,f6⟩,op7⟩:=hR3;obtain⟨a6,n6,rfl,-,-⟩:=r6.form;obtain⟨a7,n7,rfl⟩:=YS op7;obtain⟨r7,f7⟩:=op7.orow;have hB3:=zh (uh HB2) b3;have k0:=(b3.block w.heap.size (yB.1 (uh Q).1).1).trans (uh Q).1;have k1:=(b3.block (w.heap.size+1) (yB.1 (uh Q).2).1).trans (uh Q).2;have HT3:=zb (uh HT w3 hB3);have x0:w3.cell? ⟨w.heap.size,0,none⟩=some q:=yF k0 0;have HRG:Hid (w.heap.size+1<w2.heap.size/\w2.heap.size<=g6/\g6<w3.heap.size/\w2.heap.size<=g7/\g7<w3.heap.size/\w2.heap.size<=g8/\g8<w3.heap.size/\(∀ b∈l6,w2.heap.size<=b/\b<w3.heap.size)/\(∀ b∈(Value.slice a7 a.pn.ops.length n7).ownBlock.toList,w2.heap.size<=b/\b<w3.heap.size)):=
    ⟨(yB.1 (uh Q).2).1,z6,(yB.1 e6).1,z7,(yB.1 e7).1,z8,(yB.1 e8).1,fun b hb=>⟨f6.2 b hb,r6.lt b hb⟩,fun b hb=>⟨f7.2 b hb,r7.lt b hb⟩⟩
   have K3:=zb (And.intro k0 k1);have E6:=zb e6;have E7:=zb e7;have E8:=zb e8;have R6:=zb r6;have R7:=zb r7;have HB3:=zb hB3;generalize (Value.slice a7 a.pn.ops.length n7).ownBlock.toList=l7 at *;clear b3 op7 r7 f7 hB3 k0 k1 e6 e7 e8 r6 f6 z6 z7 z8 Q HB2 HSA;simp only[Act.put];go_wp2_with fail;refine (uh HT3).mono ?_;rintro e w4 ⟨v9,l9,rfl,r9,f9,b4⟩;obtain⟨a9,n9,rfl,-,-⟩:=r9.form;have h5:=zu w4 (.cells #[.slice a9 ms.length n9] 35);have k9:=yG w4 (.cells #[.slice a9 ms.length n9] 35);have s5:(w4.alloc (.cells #[.slice a9 ms.length n9] 35)).heap.size=w4.heap.size+1:=by simp
   have b35:=zh b4 h5;have hB5:=zh (uh HB3) b35;have HTP5:=zb (uh HTP _ hB5);obtain⟨x0,x1,x2,x3⟩:=Zt.of ((b35.block (w.heap.size+1) (yB.1 (uh K3).2).1).trans (uh K3).2);have HBB5:=zb b35;have HB5:=zb hB5;have K9:=zb k9;have R9:=zb (r9.below h5);have F9:Hid (∀ b∈l9,w3.heap.size<=b/\b<w4.heap.size):=fun b hb=>⟨f9.2 b hb,r9.lt b hb⟩;have ND9:=zb f9.1;have S5:=zb (And.intro s5 b4.size);clear HT3 r9 f9 b4 h5 k9 s5 b35 hB5;go_wp2_with fail;generalize w4.alloc _=w5 at *;generalize w4.heap.size=g9 at *;refine (uh HTP5).mono ?_;rintro e w6 ⟨v10,l10,rfl,r10,f10,b6⟩;obtain⟨a10,n10,rfl,-,-⟩:=r10.form;have h7:=zu w6 (.cells #[.slice a10 p.ops.length n10,.int .i64 p.base,.string p.doc,.int .i64 p.tries] 28);have k10:=yG w6 (.cells #[.slice a10 p.ops.length n10,.int .i64 p.base,.string p.doc,.int .i64 p.tries] 28);have s7:(w6.alloc (.cells #[.slice a10 p.ops.length n10,.int .i64 p.base,.string p.doc,.int .i64 p.tries] 28)).heap.size=w6.heap.size+1:=by simp
   have b57:=zh b6 h7;have hB7:=zh (uh HB5) b57;have r97:=(uh R9).below b57;have HI7:=zb (uh HIA _ _ _ l9 l10 hB7 r97 (r10.below h7));have x9:=yF ((b57.block g9 (yB.1 (uh K9)).1).trans (uh K9)) 0;have HBB7:=zb (zh (uh HBB5) b57);have HB7:=zb hB7;have K97:=zb ((b57.block g9 (yB.1 (uh K9)).1).trans (uh K9));have K10:=zb k10;have R97:=zb r97;have R10:=zb (r10.below h7);have s:Hid (∀ b∈l10,w5.heap.size<=b/\b<w6.heap.size):=fun b hb=>⟨f10.2 b hb,r10.lt b hb⟩;have ND10:=zb f10.1;have S7:=zb (And.intro s7 b6.size);clear HTP5 r10 f10 b6 h7 k10 s7 b57 hB7 r97 K9 R9 HB5 HBB5 x0 x1 x2 x3;go_wp2_with fail;generalize w6.alloc _=w7 at *;generalize w6.heap.size=W at *;refine (uh HI7).mono ?_;rintro e w8 ⟨v11,v12,Y,rfl,r11,f11,op12,b8⟩;obtain⟨C,E,rfl,-,-⟩:=r11.form;obtain⟨V,Z,rfl⟩:=YS op12;have hap:=zfF r11 op12 rfl;obtain⟨r12,f12⟩:=op12.orow;have hN:=VF w8 (.cells #[.slice C a.vs.length E] 35) (.cells #[.slice V a.pn.ops.length Z,.int .i64 a.pn.base,.string a.pn.doc,.int .i64 a.pn.tries] 28) (.cells #[.int .i64 a.kind,.int .i64 a.code,.int .i64 a.pos,.int .i64 a.no] 30);have b79:=zh b8 hN.bel;have b39:=zh (uh HBB7) b79;have k:∀ {g:Nat} {o:Obj},w3.heap[g]?=some o->(((w8.alloc (.cells #[.slice C a.vs.length E] 35)).alloc (.cells #[.slice V a.pn.ops.length Z,.int .i64 a.pn.base,.string a.pn.doc,.int .i64 a.pn.tries] 28)).alloc (.cells #[.int .i64 a.kind,.int .i64 a.code,.int .i64 a.pos,.int .i64 a.no] 30)).heap[g]?=some o:=fun e=>(b39.block _ (yB.1 e).1).trans e;have k':∀ {g:Nat} {o:Obj},w7.heap[g]?=some o->(((w8.alloc (.cells #[.slice C a.vs.length E] 35)).alloc (.cells #[.slice V a.pn.ops.length Z,.int .i64 a.pn.base,.string a.pn.doc,.int .i64 a.pn.tries] 28)).alloc (.cells #[.int .i64 a.kind,.int .i64 a.code,.int .i64 a.pos,.int .i64 a.no] 30)).heap[g]?=some o:=fun e=>(b79.block _ (yB.1 e).1).trans e;have LS:Hid (VX w.heap.size (w.heap.size+1) g6 g7 g8 g9 W w8.heap.size (w8.heap.size+1) (w8.heap.size+1+1) q o _ _ _ _ _ _ p a l6 l7 l9 l10 Y _ ms p.ops a.vs a.pn.ops _):=⟨k (uh K3).1,k (uh K3).2,k (uh E6),k (uh E7),k (uh E8),k' (uh K97),k' (uh K10),hN.k0,hN.k1,hN.k2,(uh R6).below b39,(uh R7).below b39,(uh R97).below b79,(uh R10).below b79,r11.below hN.bel,r12.below hN.bel⟩;have N:Hid (∀ b∈Y,w7.heap.size<=b/\b<w8.heap.size):=fun b hb=>⟨f11.2 b hb,r11.lt b hb⟩;have O:Hid (∀ b∈(Value.slice V a.pn.ops.length Z).ownBlock.toList,w7.heap.size<=b/\b<w8.heap.size):=fun b hb=>⟨f12.2 b hb,r12.lt b hb⟩;have HAP:=zb hap;have ND:=zb (And.intro f11.1 f12.1);have HB9:=zb (zh (uh HB7) b79);have S9:=zb b8.size;generalize (Value.slice V a.pn.ops.length Z).ownBlock.toList=l12 at *;clear HI7 r11 f11 op12 b8 hap r12 f12 hN b79 b39 k k' K3 E6 E7 E8 R6 R7 K97 K10 R97 R10 HB7 HB3 HBB7 x9;have HORD:Hid (w3.heap.size<=g9/\w5.heap.size=g9+1/\w5.heap.size<=W/\w7.heap.size=W+1/\w7.heap.size<=w8.heap.size):=⟨(uh S5).2,(uh S5).1,(uh S7).2,(uh S7).1,uh S9⟩;clear S5 S7 S9;generalize w2.heap.size=z2 at *;generalize w3.heap.size=z3 at *;generalize w5.heap.size=z5 at *;generalize w7.heap.size=z7 at *;have F:=yF (uh LS).e11 0;have x6:=yF (uh LS).e6 0;have i:=zb (XJ (.agg #[.slice C a.vs.length E]) (.agg #[.slice a6 a.vs.length n6]) a.vs Y l6 _ ⟨_,rfl,(uh LS).r11⟩ ⟨_,rfl,(uh LS).r6⟩);go_wp2_with fail;generalize ((w8.alloc _).alloc _).alloc _=w9 at *;generalize w8.heap.size=g11 at *;refine (uh i).mono ?_;rintro e w10 ⟨rfl,b10⟩;have z:=zb ((uh LS).below b10);have HB10:=zb (zh (uh HB9) b10);obtain⟨G,H,I,J⟩:=Zt.of (uh z).e12;obtain⟨t0,t1,t2,t3⟩:=Zt.of (uh z).e7;clear i b10 LS HB9 F x6;have i:=zb (Fj _ _ a.pn.base a.pn.tries a.pn.doc a.pn.ops _ _ w10 (uh z).r12 (uh z).r7);go_wp2_with fail;refine (uh i).mono ?_;rintro e w11 ⟨rfl,b11⟩;have LS11:=zb ((uh z).below b11);have HB11:=zb (zh (uh HB10) b11);clear i b11 z HB10 G H I J t0 t1 t2 t3;obtain⟨G,H,I,J⟩:=Zt.of (uh LS11).e13;obtain⟨t0,t1,t2,t3⟩:=Zt.of (uh LS11).e8;have i:=zb (PE a.kind a.code a.pos a.no w11);go_wp2_with fail;refine (uh i).mono ?_;rintro e S ⟨rfl,b12⟩;have LS12:=zb ((uh LS11).below b12)
   have HB12:=zb (zh (uh HB11) b12);clear i b12 LS11 HB11 G H I J t0 t1 t2 t3;have hd12:Bw S S.drew:=(yH _ _).drew;have S12:Hid (S.drew.cell? ⟨g9,0,none⟩=some (.slice a9 ms.length n9)/\S.drew.cell? ⟨w.heap.size,0,none⟩=some q):=⟨yF (uh LS12).e9 0,yF (uh LS12).e0 0⟩;have HT12:=zb (uh HT S.drew (zh (uh HB12) hd12));clear hd12;go_wp2_with fail;go_region_held3 (fun w'=>w'.cell? ⟨g9,0,none⟩=some (.slice a9 ms.length n9)/\w'.cell? ⟨w.heap.size,0,none⟩=some q)
    (first | with_reducible exact uh S14 | with_reducible exact uh S13 | with_reducible exact uh S12)
    (first
     |(
       go_simp;refine (uh i).mono ?_;rintro e T ⟨rfl,b14⟩;have hL14:=(uh R).below b14;have S14:Hid (T.cell? ⟨g9,0,none⟩=some (.slice a9 ms.length n9)/\T.cell? ⟨w.heap.size,0,none⟩=some q):=⟨yF hL14.e9 0,yF hL14.e0 0⟩)
     |(
       go_simp;refine (uh HT12).mono ?_;rintro e w13 ⟨v13,l13,rfl,r13,-,b13⟩;have b13':Bw S w13:=⟨b13.os,b13.tape,b13.output,b13.size,b13.block⟩;have R:=zb ((uh LS12).below b13');have S13:Hid (w13.cell? ⟨g9,0,none⟩=some (.slice a9 ms.length n9)/\w13.cell? ⟨w.heap.size,0,none⟩=some q):=⟨yF (uh R).e9 0,yF (uh R).e0 0⟩;have i:=zb (XJ (.agg #[.slice a9 ms.length n9]) (.agg #[v13]) ms l9 l13 w13 ⟨_,rfl,(uh R).r9⟩ ⟨_,rfl,r13⟩)))
   have LS14:=zb hL14;have HB14:=zb (zh (zh (uh HB12) b13') b14);clear hL14 b14 b13 b13' r13 i S14 S13 S12 HT12 LS12 R HB12;have hd14:Bw T T.drew:=(yH _ _).drew;have S14:=zb ((uh LS14).below hd14).cp;have HT14:=zb (uh HTP T.drew (zh (uh HB14) hd14));clear hd14;go_wp2_with fail;go_region_held3 (fun wx=>wx.cell? ⟨W,0,none⟩=some (.slice a10 p.ops.length n10)/\wx.cell? ⟨W,1,none⟩=some (.int .i64 p.base)/\wx.cell? ⟨W,2,none⟩=some (.string p.doc)/\wx.cell? ⟨W,3,none⟩=some (.int .i64 p.tries)/\wx.cell? ⟨w.heap.size+1,0,none⟩=some o/\wx.cell? ⟨w.heap.size+1,1,none⟩=some (.int .i64 p.base)/\wx.cell? ⟨w.heap.size+1,2,none⟩=some (.string p.doc)/\wx.cell? ⟨w.heap.size+1,3,none⟩=some (.int .i64 p.tries))
    (first | with_reducible exact uh S16 | with_reducible exact uh S15 | with_reducible exact uh S14)
    (first
     |(
       go_simp;refine (uh i).mono ?_;rintro e w16 ⟨rfl,b16⟩;have hL16:=(uh LS15).below b16;have S16:=zb hL16.cp)
     |(
       go_simp;refine (uh HT14).mono ?_;rintro e w15 ⟨v15,l15,rfl,r15,-,b15⟩;have b15':Bw T w15:=⟨b15.os,b15.tape,b15.output,b15.size,b15.block⟩;have LS15:=zb ((uh LS14).below b15');have S15:=zb (uh LS15).cp;have i:=zb (Fj _ _ p.base p.tries p.doc p.ops _ _ w15 (uh LS15).r10 r15)))
   have LS16:=zb hL16;have HB16:=zb (zh (zh (uh HB14) b15') b16);clear hL16 b16 b15 b15' r15 i S16 S15 S14 HT14 LS14 LS15 HB14;have x9:=yF (uh LS16).e9 0;have hcn:=uh HCN;have HM:=zb (D2 (.agg #[.slice a9 ms.length n9]) ms l9 w16 ⟨_,rfl,(uh LS16).r9⟩ (uh ND9) (by omega) 1 (by omega));have HK1:Hid (1+Zs ZE ms<=1000000001):=by show _<=_;omega
   clear hcn;generalize (1+Zs ZE ms:Nat)=K1 at *;go_wp2_with fail;refine (uh HM).mono ?_;rintro e w17 ⟨rfl,o17,f17⟩;obtain⟨_,n,o17⟩:=o17;injection n with n;injection n with n;injection n with n;subst n;have j:=uh HRG;have X:=uh HORD;have LS17:=zb ((uh LS16).fr f17 (by
    simp only[List.mem_cons,List.not_mem_nil,or_false,forall_eq_or_imp,forall_eq];refine⟨?_,?_,?_,?_,?_,?_,?_,?_,?_,?_⟩<;>intro f<;>have:=uh F9 _ f<;>omega)
    (fun b hb f=>by have:=j.2.2.2.2.2.2.2.1 b hb;have:=uh F9 b f;omega) (fun b hb f=>by have:=j.2.2.2.2.2.2.2.2 b hb;have:=uh F9 b f;omega) (.inr o17) (.inl ⟨fun b hb f=>by have:=uh s b hb;have:=uh F9 b f;omega,rfl⟩) (.inl ⟨fun b hb f=>by have:=uh N b hb;have:=uh F9 b f;omega,rfl⟩) (.inl ⟨fun b hb f=>by have:=uh O b hb;have:=uh F9 b f;omega,rfl⟩))
   have HB17:=zb ((uh HB16).trans (f17.below (fun b hb=>by have:=uh F9 b hb;omega) (uh HB16).size));clear HM f17 o17 LS16 HB16 x9 j X;obtain⟨G,H,I,J⟩:=Zt.of (uh LS17).e10;have hcn:=uh HCN;have hk1:=uh HK1;have HM:=zb (M4 _ p.base p.tries p.doc p.ops _ K1 w17 (uh LS17).r10 (uh ND10) (by omega) (by rw[Kc];omega));rw[Kc]at HM;have hk2:K1+4*p.ops.length<=2000000000:=by omega
   clear hcn hk1;generalize (K1+4*p.ops.length:Nat)=K2 at *;go_wp2_with fail;refine (uh HM).mono ?_;rintro e w18 ⟨rfl,o18,f18⟩;have j:=uh HRG;have X:=uh HORD;have A:=zb ((uh LS17).fr f18 (by
    simp only[List.mem_cons,List.not_mem_nil,or_false,forall_eq_or_imp,forall_eq];refine⟨?_,?_,?_,?_,?_,?_,?_,?_,?_,?_⟩<;>intro f<;>have:=uh s _ f<;>omega)
    (fun b hb f=>by have:=j.2.2.2.2.2.2.2.1 b hb;have:=uh s b f;omega) (fun b hb f=>by have:=j.2.2.2.2.2.2.2.2 b hb;have:=uh s b f;omega) (.inl ⟨fun b hb f=>by have:=uh F9 b hb;have:=uh s b f;omega,rfl⟩) (.inr o18) (.inl ⟨fun b hb f=>by have:=uh N b hb;have:=uh s b f;omega,rfl⟩) (.inl ⟨fun b hb f=>by have:=uh O b hb;have:=uh s b f;omega,rfl⟩))
   have HB18:=zb ((uh HB17).trans (f18.below (fun b hb=>by have:=uh s b hb;omega) (uh HB17).size));clear HM f18 o18 LS17 HB17 j X G H I J;have F:=yF (uh A).e11 0;have x6:=yF (uh A).e6 0;have i:=zb (XJ (.agg #[.slice C a.vs.length E]) (.agg #[.slice a6 a.vs.length n6]) a.vs Y l6 w18 ⟨_,rfl,(uh A).r11⟩ ⟨_,rfl,(uh A).r6⟩);go_wp2_with fail;refine (uh i).mono ?_;rintro e w19 ⟨rfl,b19⟩;have B:=zb ((uh A).below b19);have HB19:=zb (zh (uh HB18) b19);clear i b19 A HB18 F x6;obtain⟨G,H,I,J⟩:=Zt.of (uh B).e12;obtain⟨t0,t1,t2,t3⟩:=Zt.of (uh B).e7;have i:=zb (Fj _ _ a.pn.base a.pn.tries a.pn.doc a.pn.ops _ _ w19 (uh B).r12 (uh B).r7);go_wp2_with fail;refine (uh i).mono ?_;rintro e w20 ⟨rfl,b20⟩;have LS20:=zb ((uh B).below b20);have HB20:=zb (zh (uh HB19) b20);clear i b20 B HB19 G H I J t0 t1 t2 t3;obtain⟨G,H,I,J⟩:=Zt.of (uh LS20).e13;obtain⟨t0,t1,t2,t3⟩:=Zt.of (uh LS20).e8;have i:=zb (PE a.kind a.code a.pos a.no w20);go_wp2_with fail;refine (uh i).mono ?_;rintro e w21 ⟨rfl,b21⟩;have LS21:=zb ((uh LS20).below b21);have HB21:=zb (zh (uh HB20) b21);clear i b21 LS20 HB20 G H I J t0 t1 t2 t3 hk2;have F:=yF (uh LS21).e11 0;have hbb:=uh HBB;have hcn:=hbb.cnt;have HM:=zb (D2 (.agg #[.slice C a.vs.length E]) a.vs Y w21 ⟨_,rfl,(uh LS21).r11⟩ (uh ND).1 hbb.sz 1 (by omega));obtain⟨K3,hK3⟩:∃ K,1+Zs ZE a.vs=K:=⟨_,rfl⟩;rw[hK3]at HM;have hk3:K3<=2000000000:=by omega
   have HK3:=zb hK3;clear hbb hcn hK3;go_wp2_with fail;refine (uh HM).mono ?_;rintro e w22 ⟨rfl,o22,f22⟩;obtain⟨_,r,o22⟩:=o22;injection r with r;injection r with r;injection r with r;subst r;have j:=uh HRG;have X:=uh HORD;have LS22:=zb ((uh LS21).fr f22 (by
    simp only[List.mem_cons,List.not_mem_nil,or_false,forall_eq_or_imp,forall_eq];refine⟨?_,?_,?_,?_,?_,?_,?_,?_,?_,?_⟩<;>intro f<;>have:=uh N _ f<;>omega)
    (fun b hb f=>by have:=j.2.2.2.2.2.2.2.1 b hb;have:=uh N b f;omega) (fun b hb f=>by have:=j.2.2.2.2.2.2.2.2 b hb;have:=uh N b f;omega) (.inl ⟨fun b hb f=>by have:=uh F9 b hb;have:=uh N b f;omega,rfl⟩) (.inl ⟨fun b hb f=>by have:=uh s b hb;have:=uh N b f;omega,rfl⟩) (.inr o22) (.inl ⟨uh HAP,rfl⟩))
   have HB22:=zb ((uh HB21).trans (f22.below (fun b hb=>by have:=uh N b hb;omega) (uh HB21).size));clear HM f22 o22 LS21 HB21 j X F;obtain⟨G,H,I,J⟩:=Zt.of (uh LS22).e12;have hol:=(uh HBB).ops;have HM:=zb (M4 _ a.pn.base a.pn.tries a.pn.doc a.pn.ops _ K3 w22 (uh LS22).r12 (uh ND).2 (by omega) (by rw[Kc];omega));obtain⟨K4,hK4⟩:∃ K,K3+Zs ZU a.pn.ops=K:=⟨_,rfl⟩;rw[hK4]at HM;have hk4:K4<=3000000000:=by rw[Kc]at hK4;omega
   have HK4:=zb hK4;clear hK4 hol;go_wp2_with fail;refine (uh HM).mono ?_;rintro e w23 ⟨rfl,o23,f23⟩;have j:=uh HRG;have X:=uh HORD;have LS23:=zb ((uh LS22).fr f23 (by
    simp only[List.mem_cons,List.not_mem_nil,or_false,forall_eq_or_imp,forall_eq];refine⟨?_,?_,?_,?_,?_,?_,?_,?_,?_,?_⟩<;>intro f<;>have:=uh O _ f<;>omega)
    (fun b hb f=>by have:=j.2.2.2.2.2.2.2.1 b hb;have:=uh O b f;omega) (fun b hb f=>by have:=j.2.2.2.2.2.2.2.2 b hb;have:=uh O b f;omega) (.inl ⟨fun b hb f=>by have:=uh F9 b hb;have:=uh O b f;omega,rfl⟩) (.inl ⟨fun b hb f=>by have:=uh s b hb;have:=uh O b f;omega,rfl⟩) (.inl ⟨fun b hb f=>uh HAP b f hb,rfl⟩) (.inr o23))
   have HB23:=zb ((uh HB22).trans (f23.below (fun b hb=>by have:=uh O b hb;omega) (uh HB22).size));clear HM f23 o23 LS22 HB22 j X G H I J;have HHS:Hid (∀ wx,zk zT wx (.slice C a.vs.length E) (qe JU ZE 1 a.vs) Y->Calls prog 19 #[.agg #[.slice C a.vs.length E],.int .i64 1] wx (Rb (.int .i64 K3) wx)):=fun wx h=>by
    have hc:=(uh HBB).cnt;have:=zad (.agg #[.slice C a.vs.length E]) a.vs Y wx 1 ⟨_,rfl,h⟩ (uh HBB).sz (by omega);rw[uh HK3]at this;exact this
   have HHP:Hid (∀ wx,zk Zh wx (.slice V a.pn.ops.length Z) (qe JH ZU K3 a.pn.ops) l12->Calls prog 14 #[.agg #[.slice V a.pn.ops.length Z,.int .i64 a.pn.base,.string a.pn.doc,.int .i64 a.pn.tries],.int .i64 K3] wx (Rb (.int .i64 K4) wx)):=fun wx h=>by
    have hc:=(uh HBB).ops;have:=zcR _ a.pn.base a.pn.tries a.pn.doc a.pn.ops l12 K3 wx h (by omega) (by rw[Kc];omega);rw[uh HK4]at this;exact this
   have F:=yF (uh LS23).e11 0;have i:=zb (uh HHS w23 (uh LS23).r11);go_wp2_with fail;refine (uh i).mono ?_;rintro e w24 ⟨rfl,b24⟩;have LS24:=zb ((uh LS23).below b24);have HB24:=zb (zh (uh HB23) b24);clear i b24 LS23 HB23 F;obtain⟨G,H,I,J⟩:=Zt.of (uh LS24).e12;have i:=zb (uh HHP w24 (uh LS24).r12);go_wp2_with fail;refine (uh i).mono ?_;rintro e w25 ⟨rfl,b25⟩;have LS25:=zb ((uh LS24).below b25);have P:=zb (zh (uh HB24) b25);clear i b25 LS24 HB24 G H I J;go_wp2_with fail;refine Ck (a:=a) (ms:=ms) (p:=p) (q:=q) (o:=o) (gs:=w.heap.size) (gp:=w.heap.size+1) (f4:=18) rfl ⟨rfl,rfl⟩ (fun b w' u v h h'=>clI b w' _ _ _ _ _ _ u v _ h h') (by kernel_rfl) (by kernel_rfl) (by decide) (by decide) (by decide) (by intro d hd;show d<159;revert d;decide) rfl rfl (uh LS25).e0 (uh LS25).e1
    (fun w' hx=>uh HT w' (zh (uh P) hx)) (fun w' hx=>uh HTP w' (zh (uh P) hx)) (fun w' x y l m hx h k=>uh HIA w' x y l m (zh (uh P) hx) h k) ?_
   intro w26 v17 v18 u5 u7 g17 g18 g19 b26 hR26 z17 z18 z19 e17 e18 e19;obtain⟨⟨l17,r17,-⟩,op18⟩:=hR26;obtain⟨a17,n17,rfl,-,-⟩:=r17.form;obtain⟨a18,n18,rfl⟩:=YS op18;have LS26:=zb ((uh LS25).below b26);have HB26:=zb (zh (uh P) b26);have E18:=zb e18;have E19:=zb e19;have R18:=zb op18.orow.1;have x17:=yF e17 0;have x6:=yF (uh LS26).e6 0;have i:=zb (XJ (.agg #[.slice a17 a.vs.length n17]) (.agg #[.slice a6 a.vs.length n6]) a.vs l17 l6 w26 ⟨_,rfl,r17⟩ ⟨_,rfl,(uh LS26).r6⟩);clear b26 r17 op18 z17 z18 z19 e17 e18 e19 LS25 P HT HTP HIA;simp only[Act.put];go_wp2_with fail;refine (uh i).mono ?_;rintro e w27 ⟨rfl,b27⟩;have LS27:=zb ((uh LS26).below b27);have HB27:=zb (zh (uh HB26) b27);have E19':=zb ((b27.block g19 (yB.1 (uh E19)).1).trans (uh E19));obtain⟨G,H,I,J⟩:=Zt.of ((b27.block g18 (yB.1 (uh E18)).1).trans (uh E18));obtain⟨t0,t1,t2,t3⟩:=Zt.of (uh LS27).e7;have r18:=(uh R18).below b27;clear i b27 LS26 HB26 x17 x6 E18 E19 R18;have i:=zb (Fj _ _ a.pn.base a.pn.tries a.pn.doc a.pn.ops _ _ w27 r18 (uh LS27).r7);clear r18;go_wp2_with fail;refine (uh i).mono ?_;rintro e w28 ⟨rfl,b28⟩;have LS28:=zb ((uh LS27).below b28);have HB28:=zb (zh (uh HB27) b28);clear G H I J t0 t1 t2 t3;obtain⟨G,H,I,J⟩:=Zt.of ((b28.block g19 (yB.1 (uh E19')).1).trans (uh E19'));obtain⟨t0,t1,t2,t3⟩:=Zt.of (uh LS28).e8;clear i b28 LS27 HB27 E19';have i:=zb (PE a.kind a.code a.pos a.no w28);go_wp2_with fail;refine (uh i).mono ?_;rintro e w29 ⟨rfl,b29⟩;have LS29:=zb ((uh LS28).below b29);have HB29:=zb (zh (uh HB28) b29);clear i b29 LS28 HB28 G H I J t0 t1 t2 t3;have F:=yF (uh LS29).e11 0;have i:=zb (uh HHS w29 (uh LS29).r11);go_wp2_with fail;refine (uh i).mono ?_;rintro e w30 ⟨rfl,b30⟩;have LS30:=zb ((uh LS29).below b30);have HB30:=zb (zh (uh HB29) b30);clear i b30 LS29 HB29 F;obtain⟨G,H,I,J⟩:=Zt.of (uh LS30).e12;have i:=zb (uh HHP w30 (uh LS30).r12);go_wp2_with fail;refine (uh i).mono ?_;rintro e w31 ⟨rfl,b31⟩;have LS31:=zb ((uh LS30).below b31);have HB31:=zb (zh (uh HB30) b31);clear i b31 LS30 HB30 G H I J;go_wp2;go_ret;exact⟨rfl,uh HB31⟩
  ·rw[JC hpz]at HPL;clear hw hg hr1 hp1 hA HP;go_in;go_wp2_with fail;generalize (w.alloc _).alloc _=wA at *;refine (uh HS).mono ?_;rintro e w1 ⟨rfl,b1⟩;have hz:=(uh HA).size;have B1:=zh (uh HA).bel b1;obtain⟨c0,c1,c2,c3⟩:=Zt.of ((b1.block (w.heap.size+1) (by omega)).trans (uh HA).k1);have HP1:=zb (uh HPL w1 B1);have U:=zb B1;clear HS b1 B1 HA hz HPL hpz;generalize 1048576 - ZG ms=L at *;go_wp2_with fail;refine (uh HP1).mono ?_;rintro e w2 ⟨rfl,b2⟩;have HB2:=zb (zh (uh U) b2);clear HP1 b2 c0 c1 c2 c3 U;go_wp2;go_ret;exact⟨rfl,uh HB2⟩
 ·rw[JC D]at HS;clear hw hg hr1 hp1 hA HP;go_in;go_wp2_with fail;generalize (w.alloc _).alloc _=wA at *;refine (uh HS).mono ?_;rintro e w1 ⟨rfl,b1⟩;have U:=zb (zh (uh HA).bel b1);clear HS b1 HA;go_wp2;go_ret;exact⟨rfl,uh U⟩
def Cl(w:Wo):Prop:=(Gf w/\Qr w.heap.size w/\Jd w.heap.size w)/\YD w
theorem zfH{W:Wo}(hL:laidMetH prog Rows.fnExactAttemptRow.laid W):Cl W:=by
 have h : laidMet Tryz.prog FU W ∧ handlesMet Tryz.prog [("errors.errorType", Rows.laid_errors_errorType)] W := hL
 exact⟨⟨ze1 h.1,ze4 h.1,ze2 h.1⟩,zfa h.2⟩
theorem zfI(v:Value)(ms:List zl)(vp:Value)(p:ZP)(w:Wo)(hr:YN w v ms)(hp:YU w vp p/\p.doc.size<=maxLen)(hm:ML w)(h:Cl w):
  Calls prog 4 #[v,vp] w fun e w'=>e= .returned (.bool true)/\Bw w w':=zfG v vp ms p w hr hp.1 (by have:=hp.2;unfold maxLen at this;omega) ⟨qJ.of h.1.1,h.1.2.1,h.1.2.2,hm⟩ h.2
end Go.Proofs.YtekpghcckdjnhaaGreatDoor
