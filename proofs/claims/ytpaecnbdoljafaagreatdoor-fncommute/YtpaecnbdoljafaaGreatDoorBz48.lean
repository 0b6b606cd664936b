import Derived.Test.YtpaecnbdoljafaaGreatDoorBz44
import Derived.Test.YtpaecnbdoljafaaGreatDoorBz47
set_option maxRecDepth 100000
set_option maxHeartbeats 8000000
namespace Go.Proofs.YtpaecnbdoljafaaGreatDoor
open Go.RowKit Go.Proofs.Tryz
def YD(v:JV)(ms:List zG):(Int×Int)⊕JV:=if 0<=Z9 ms then .inl (2,Z9 ms)else match Zw v (ms.map ZN) 0 with
 | .inl ci=>.inl ((ci.1:Int),(ci.2:Int))
 | .inr r=>.inr r
theorem zfL{v:JV}{ms:List zG}(h:0<=Z9 ms):YD v ms= .inl (2,Z9 ms):=by unfold YD;rw[yg h]
theorem Es{v:JV}{ms:List zG}{c i:Nat}(h:¬ 0<=Z9 ms)(hr:Zw v (ms.map ZN) 0= .inl (c,i)):YD v ms= .inl ((c:Int),(i:Int)):=by unfold YD;rw[yf h,hr]
theorem zfM{v r:JV}{ms:List zG}(h:¬ 0<=Z9 ms)(hr:Zw v (ms.map ZN) 0= .inr r):YD v ms= .inr r:=by unfold YD;rw[yf h,hr]
def SG(w:Wo)(o:(Int×Int)⊕JV)(e:Ending)(w':Wo):Prop:=Bw w w' /\
 ((∃ c i t p,o= .inl (c,i)/\c≠0/\e= .returned (.tuple #[.nilIface,.iface t p])/\Xl w' i c (.iface t p))∨∃ u t p,o= .inr u/\ZF u/\e= .returned (.tuple #[.iface t p,.nilIface])/\zS w' u (.iface t p))
theorem zfN{w:Wo}{i c:Int}{t:TypeId}{p:Value}(h:UZ w c (.iface t p)):Xl (w.alloc (.cells #[.int .i64 i,.iface t p] 143)) i c (.iface 141 (.pointer (some ⟨w.heap.size,0,none⟩))):=
 ⟨w.heap.size,_,rfl,yH w _,h.next (zY _ _)⟩
theorem zfO(hEq:Xn)(hMv:Ot){w w1:Wo}{la:Option Addr}{lc:Nat}{ms:List zG}{qs:List Gd}(hL:WY w1 w.heap.size (WZ w.heap.size w1 (.slice la qs.length lc)) (.slice la qs.length lc) ms qs)(hin:Wu ms)(hok:∀ m∈ms,Zu m=true){k:Nat}(hk:k<ms.length){wr:Wo}(hb:Bw w1 wr)(hw:qQ wr){u:JV}(hu:ZF u){ty:TypeId}{p:Value}(hr:zS wr u (.iface ty p)):
  ∃ lg g fid,la=some ⟨lg,0,none⟩/\wr.cell? ⟨lg,k,none⟩=some (.pointer (some ⟨g,0,none⟩))/\wr.cell? ⟨g,6,none⟩=some (.func (Fn.func fid) #[] #[])/\(∀ (w:Wo),Sem.run prog (callFunc fid #[.iface ty p,.pointer (some ⟨g,0,none⟩)]) w= .ok (.enter fid #[.iface ty p,.pointer (some ⟨g,0,none⟩)]) w) /\
   Calls prog fid #[.iface ty p,.pointer (some ⟨g,0,none⟩)] wr (Zj wr (Zl u (ZN ms[k]))):=by
 have s:=hL.len;have q:=Zd hL.row hb;obtain⟨lg,rfl⟩:∃ g,la=some ⟨g,0,none⟩:=by
  rcases q.2 with ⟨_,N⟩ |⟨g,y,A,f,_⟩
  ·omega
  ·injection f with f _ _;exact⟨g,f⟩
 have d:k<qs.length:=by omega
 have z:wr.cell? ⟨lg,k,none⟩=some (Ol qs[k]):=by
  rw[q.cellAt k (by simpa using d),List.getElem?_map,yy d];rfl
 have n:=hL.ops k ms[k] qs[k] (yy hk) (yy d);have a:GZ wr (WZ w.heap.size w1 (.slice (some ⟨lg,0,none⟩) qs.length lc)) ms[k] qs[k]:=n.keep (fun j hj=>hb.block j hj.2.1) (fun _ h=>h);obtain⟨v,x,O⟩:=hin ms[k] (yt hk);obtain⟨F,G,o⟩:=LR (hok ms[k] (yt hk));obtain⟨B,M⟩:=Fc ms[k];obtain⟨pa,J,P,pc,L,K,R,Q,C⟩:=a.toM (fun j hj=>yF hj.2.1 hb.size) v x (JB ms[k]) (fun f=>by
  have r:=(o f).1;rw[(a.val f).1]at r;injection r with r;exact r.symm)
 obtain⟨H,_⟩:=Oq ms[k].path v;obtain⟨I,_⟩:=Oq ms[k].src x;have E:=hu.len;obtain⟨fid,D,l,b⟩:=zfe hEq hMv u (ZN ms[k]) wr ty p F G hw hu.t (by omega) B (by show (ct (JB ms[k])).length<=_;omega) hr C I H (fun m hm=>by have:=Yn hu.t hm;omega);refine⟨lg,qs[k].g,fid,rfl,z,?_,fun w=>l _ w,b⟩;have i:=a.blk;unfold GY at i;rw[show wr.cell? ⟨qs[k].g,6,none⟩=some (Vn ms[k].kind)from yG i 6];exact congrArg some D
theorem zfP(hEq:Xn)(hMv:Ot)(v:JV)(hv:ZF v)(x:Value)(ms:List zG)(bl:List Nat)(w:Wo)(ty:TypeId)(p:Value)(hrow:Zr Yk w x ms bl)(hs:Gt ms)(hw:qQ w)(hr:zS w v (.iface ty p)):
  Calls prog 34 #[.iface ty p,x] w (SG w (YD v ms)):=by
 have z:=ze (zeJ x ms bl w hrow hs hw);obtain⟨xa,xc,rfl,h1,hxa⟩:=hrow.form;clear hrow h1 hxa;by_cases b:0<=Z9 ms
 ·have K:=ze (zfL (v:=v) b);have a:=ze b;clear b hr hw hs;go_in;go_wp2_with fail;refine (uh z).mono ?_;rintro e T ⟨L,l,-⟩;obtain⟨t,q,rfl,he⟩:=l (uh a);have HE:Hid (SG w (YD v ms) (.returned (.tuple #[.nilIface,.iface t q])) T):=⟨L,.inl ⟨2,Z9 ms,t,q,uh K,by decide,rfl,he⟩⟩;clear z l L he;go_wp2;go_ret2;exact uh HE
 ·obtain⟨hl100,E⟩:=LS b;have N:=hs.1;have a:=ze b;have U:=ze hr;have C:Hid (VM v (ms.map ZN) 0 v):=⟨rfl,hv⟩;clear b hr;go_in;go_wp2_with fail;refine (uh z).mono ?_;rintro e T ⟨L,-,hg⟩;obtain⟨lv,qs,rfl,hL⟩:=hg (by have:=uh a;omega);obtain⟨la,lc,rfl⟩:∃ la lc,lv= .slice la qs.length lc:=by
   rcases hL.row.2 with ⟨hv,hn⟩ |⟨g,cap,cur,hv,_⟩
   ·exact⟨none,0,by rw[hv,hn]⟩
   ·exact⟨some ⟨g,0,none⟩,cap,hv⟩
  have F:=hL.len;have I:Hid (∀ (k:Nat) (S:k<ms.length) (wr:Wo),Bw T wr->∀ (u:JV),ZF u->∀ ty p,zS wr u (.iface ty p)->∃ lg g j,la=some ⟨lg,0,none⟩/\wr.cell? ⟨lg,k,none⟩=some (.pointer (some ⟨g,0,none⟩))/\wr.cell? ⟨g,6,none⟩=some (.func (Fn.func j) #[] #[])/\(∀ (w:Wo),Sem.run prog (callFunc j #[.iface ty p,.pointer (some ⟨g,0,none⟩)]) w= .ok (.enter j #[.iface ty p,.pointer (some ⟨g,0,none⟩)]) w) /\
    Calls prog j #[.iface ty p,.pointer (some ⟨g,0,none⟩)] wr (Zj wr (Zl u (ZN ms[k])))):=fun k S wr l u hu ty p hr=>zfO hEq hMv hL N E S l (hw.up (zi L l)) hu hr
  have y:Hid (∀ wr,Bw w wr->QE wr.heap.size wr):=fun wr hx=>(hw.up hx).pow;have s:Hid (∀ (k:Nat) (S:k<ms.length) (u r:JV),ZF u->Zl u (ZN ms[k])= .inr r->zo r/\(ct r).length<=10000000):=fun k S u r hu n=>by
   obtain⟨g1,g2⟩:=Fc ms[k];obtain⟨i1,i2,i3⟩:=N ms[k] (yt S);have hdl:=LU hu.t n (Oq ms[k].path i1).2;have hul:=hu.len;refine⟨Ki hu.t g1 n,?_⟩;have:(ct (ZN ms[k]).val).length<=20000:=g2;omega
  have D:=ze ((uh U).next L);have o:=ze L;rw[F];clear z hg hL L hw hs N E U hEq hMv F hv;go_wp2_with fail;go_loopw [0,7,20] (fun rv ev iv wr=>∃ (k:Nat) (u:JV) (ty:TypeId) (p:Value),k<=ms.length/\iv= .int .i64 (k:Int)/\ev= .nilIface/\rv= .iface ty p/\VM v (ms.map ZN) k u/\zS wr u (.iface ty p)/\Bw T wr) (fun _ _ iv _=>ms.length - (intOf iv).toNat)
  case atStart=>exact⟨0,v,ty,p,yu _,rfl,rfl,rfl,uh C,uh D,yI _ _⟩
  case round=>
   obtain⟨k,u,ty,p,S,rfl,rfl,rfl,d,B,l⟩:=hrel;by_cases A:k<ms.length
   ·obtain⟨lg,g,j,rfl,q1,q2,hent,m⟩:=uh I k A wr l u d.2 ty p B;have HC:=ze m;have Q:=ze l;have HR:=ze d;have hltI:(k:Int)<(ms.length:Int):=by omega
    have O:k<(ms.map ZN).length:=by simpa using A
    have W:(ms.map ZN)[k]=ZN ms[k]:=by simp
    clear m l d B C D I;go_wp2_with fail;refine (uh HC).mono ?_;rintro e w2 ⟨Y,⟨c,ev,n,rfl,hf⟩ |⟨r,t',p',n,rfl,P⟩⟩
    ·have K:=ze (Es (by have:=uh a;omega) (LW (uh HR) O (by rw[W];exact n)));have HF:=ze hf;have HC0:Hid ((c:Int)≠0):=by have:=Fb n;show (c:Int)≠0;omega
     obtain⟨fb,rfl,-⟩:=hf;have f:=ze (zi (uh Q) Y);clear HC Y n Q s y q1 q2;go_wp2;go_ret2;exact⟨zi (zi (uh o) (uh f)) (zY _ _),.inl ⟨_,_,_,_,uh K,uh HC0,rfl,zfN (uh HF)⟩⟩
    ·obtain⟨Z,lr⟩:=uh s k A u r (uh HR).2 n;have M:=zi (uh Q) Y;have i:=ze (zeL r Z.rd Z.tw w2 _ t' p' P (fun _ h=>h) (uh y w2 (zi (uh o) M)) lr);have X:Hid (Zl u (ms.map ZN)[k]= .inr r):=by rw[W];exact n
     have H:=ze Z;have J:=ze P;have f:=ze M;clear HC Y n Q M Z lr P q1 q2
     cases hlim:Q5 r with
     | true=>
      have V:decide (zm r<=100/\zj r<=3000/\(ct r).length<=20000)=true:=yj ((Uv r).1 hlim);rw[V]at i;have HNX:=ze (LV (uh HR) O (uh X) (uh H) hlim);clear V hlim X H;go_wp2_with fail;refine (uh i).mono ?_;rintro e w3 ⟨rfl,R⟩;have HR3:=ze ((uh J).next R);have G:=ze (zi (uh f) R);clear i R J f;go_wp2;go_roundw
      case rel=>exact⟨k+1,r,t',p',by omega,by go_num,rfl,rfl,uh HNX,uh HR3,uh G⟩
      case measure=>simp[intOf];omega
     | false=>
      have V:decide (zm r<=100/\zj r<=3000/\(ct r).length<=20000)=false:=yk fun h=>by rw[(Uv r).2 h]at hlim;cases hlim
      rw[V]at i;have K:=ze (Es (by have:=uh a;omega) (Pk (uh HR) O (uh X) hlim));clear V hlim X H J s y;go_wp2_with fail;refine (uh i).mono ?_;rintro e w3 ⟨rfl,R⟩;have G:=ze (zi (uh f) R);clear i R f;go_wp2;go_ret2;exact⟨zi (zi (zi (uh o) (uh G)) (zY _ _)) (zY _ _),.inl ⟨_,_,_,_,uh K,by decide,rfl,St _ _ _⟩⟩
   ·have K:=ze (zfM (by have:=uh a;omega) (LX d (by simpa using A)));have HT:=ze B;have HGU:=ze d.2;have Q:=ze l;clear d B l s y I;go_wp2;go_ret2;exact⟨zi (uh o) (uh Q),.inr ⟨u,ty,p,uh K,uh HGU,rfl,uh HT⟩⟩
theorem zfQ:Xn:=fun a b w ta tb pa pb ga gb la lb ha hb=>zfk a b ga gb la lb w ta tb pa pb ha hb
theorem zfR{s:Bs}{ms:List zG}{c:Nat}(h:zI s= .inl c):Ze s ms=(⟨#[]⟩,1,0):=by unfold Ze;rw[h]
theorem zfS{s:Bs}{ms:List zG}{v:JV}{c i:Int}(h:zI s= .inr v)(ho:YD v ms= .inl (c,i)):Ze s ms=(⟨#[]⟩,c,i):=by
 unfold YD at ho;unfold Ze;rw[h];simp only;by_cases a:0<=Z9 ms
 ·rw[yg a]at ho ⊢;injection ho with ho;injection ho with h1 h2;rw[h2,← h1]
 ·rw[yf a]at ho ⊢
  cases hr:Zw v (ms.map ZN) 0 with
  | inl ci=>
   rw[hr]at ho;injection ho with ho;injection ho with h1 h2;simp only;rw[← h1,← h2]
  | inr r=>rw[hr]at ho;cases ho
theorem zfT{s:Bs}{ms:List zG}{v r:JV}(h:zI s= .inr v)(ho:YD v ms= .inr r):Ze s ms=(zh (ct r),0,0):=by
 unfold YD at ho;unfold Ze;rw[h];simp only;by_cases a:0<=Z9 ms
 ·rw[yg a]at ho;cases ho
 ·rw[yf a]at ho ⊢
  cases hr:Zw v (ms.map ZN) 0 with
  | inl ci=>rw[hr]at ho;cases ho
  | inr r'=>
   rw[hr]at ho;injection ho with ho;simp only;rw[ho]
theorem SH(s:Bs)(x:Value)(ms:List zG)(bl:List Nat)(w:Wo)(hrow:Zr Yk w x ms bl)(hs:Gt ms)(hsz:s.size<=1048576)(hw:qQ w)(hg:YC w):
  Calls prog 11 #[.string s,x] w fun e w'=>e= .returned (.tuple #[.string (Ze s ms).1,.int .i64 (Ze s ms).2.1,.int .i64 (Ze s ms).2.2])/\Bw w w':=by
 have m:=ze (Xc s w hw.tab hw.err hw.pow (by omega));obtain⟨T,U,rfl,P,A⟩:=hrow.form
 cases hr:zI s with
 | inl c=>
  have E:=GK hr;have HR:=ze (zfR (ms:=ms) hr);rw[hr]at m;have F:((c:Int) !=0)=true:=by simp;omega
  clear hr E hrow hs hsz P A hw hg;go_in;go_wp2_with fail;refine (uh m).mono ?_;rintro e S ⟨n,rfl⟩;have a:=ze n;clear m n;go_wp2;go_ret3;exact⟨by rw[uh HR];rfl,uh a⟩
 | inr v=>
  have y:=ZF.of hr;have HR:=ze hr;rw[hr]at m;have q:Hid (∀ (wx:Wo) (t:TypeId) (p:Value),Bw w wx->zS wx v (.iface t p)->Calls prog 34 #[.iface t p,.slice T ms.length U] wx (SG wx (YD v ms))):=fun wx t p hx j=>
   zfP zfQ zfp v y _ ms bl wx t p (hrow.below hx) hs (hw.up hx) j
  have g:Hid (∀ wx,Bw w wx->qQ wx/\YC wx):=fun wx hx=>⟨hw.up hx,hg.up hx⟩;clear hr hrow hs hsz P A hw hg y;go_in;go_wp2_with fail;refine (uh m).mono ?_;rintro e S ⟨n,t,p,rfl,B⟩;have G:=ze (uh q S t p n (zk.keep (fun _ _=>rfl) (fun k hk=>hk.2) _ _ B));have a:=ze n;clear m n B q;go_wp2_with fail;refine (uh G).mono ?_;rintro e L ⟨D,⟨c,i,F,K,z,E,rfl,Q⟩ |⟨u,F,K,z,R,rfl,j⟩⟩
  ·have b:=zi (uh a) D;have r:=ze (zfI i c F K L Q (uh g L b).2);have I:=ze (zfS (uh HR) z);have d:=ze b;have V:(c !=0)=true:=by simpa using E
   clear G D b a z E Q g;go_wp2_with fail;refine (uh r).mono ?_;rintro e M ⟨rfl,o⟩;have f:=ze (zi (uh d) o);clear r o d;go_wp2;go_ret3;exact⟨by rw[uh I];rfl,uh f⟩
  ·have b:=zi (uh a) D;have r:=ze (zfH L);have I:=ze (zfT (uh HR) z);have d:=ze b;have C:=ze R;have N:=ze j;clear G D b a z R j;go_wp2_with fail;refine (uh r).mono ?_;rintro e M ⟨rfl,o⟩;have l:=zi (uh d) o;have J:=(uh C).len;have HC:=ze (K0 u (uh C).ok (uh C).tw F K M _ ((uh N).next o) (fun _ h=>h) (uh g M l).1.pow (by omega));have f:=ze l;clear r o l d C N J g;go_wp2_with fail;refine (uh HC).mono ?_;rintro e W ⟨rfl,O⟩;have H:=ze (zi (uh f) O);clear HC O f;go_wp2;go_ret3;exact⟨by rw[uh I];rfl,uh H⟩
end Go.Proofs.YtpaecnbdoljafaaGreatDoor
