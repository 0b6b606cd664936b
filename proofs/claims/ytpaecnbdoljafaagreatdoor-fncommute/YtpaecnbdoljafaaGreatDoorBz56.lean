import Derived.Test.YtpaecnbdoljafaaGreatDoorBz43
import Derived.Test.YtpaecnbdoljafaaGreatDoorBz53
import Derived.Test.YtpaecnbdoljafaaGreatDoorBz54
import Derived.Test.YtpaecnbdoljafaaGreatDoorBz52
import Derived.Test.YtpaecnbdoljafaaGreatDoorBz16
import Derived.Test.YtpaecnbdoljafaaGreatDoorBz55
import Derived.Test.YtpaecnbdoljafaaGreatDoorBz36
set_option maxRecDepth 100000
set_option maxHeartbeats 8000000
namespace Go.Proofs.YtpaecnbdoljafaaGreatDoor
open Go.RowKit Go.Proofs.Tryz
theorem EN{m:zG}(h:Zu m=true):1<=m.kind/\m.kind<=6/\(zK m.path.data.toList).isSome=true/\(zK m.src.data.toList).isSome=true/\(Qj m.kind=false->m.src.toList=[])/\(ZR m.kind=true->Qy m.val=true)/\(ZR m.kind=false->m.val.toList=[]):=by
 unfold Zu at h;simp only[Bool.and_eq_true,decide_eq_true_eq]at h;obtain⟨⟨⟨⟨g,i⟩,j⟩,a⟩,b⟩:=h;refine⟨g,i,j,?_,?_,?_,?_⟩
 ·cases d:Qj m.kind with
  | true=>rw[d]at a;exact a
  | false=>
   rw[d]at a;have e:m.src.toList=[]:=by simpa using a
   rw[ByteArray.toList_eq]at e;rw[e];rfl
 ·intro d;rw[d]at a;simpa using a
 ·intro f;rw[f]at b;exact b
 ·intro f;rw[f]at b;simpa using b
def JO(t:List UInt8):Bool:=(t !=[] && t.all fun c=>zP c.toNat) || t ==[45]
def Qh(ts:List (List UInt8)):List (List UInt8):=if ts≠[]/\JO (ts.getLastD [])=true then ts.dropLast else ts
theorem Xu{ts:List (List UInt8)}{t:List UInt8}(h:JO t=true):Qh (ts++[t])=ts:=by
 unfold Qh;rw[yg ⟨by simp,by simpa using h⟩];simp
theorem Xv{ts:List (List UInt8)}{t:List UInt8}(h:JO t=false):Qh (ts++[t])=ts++[t]:=by
 unfold Qh;rw[yf (by rintro⟨_,a⟩;simp[h]at a)]
theorem zgg(c:UInt8):1<=(QV c).length:=by unfold QV;split<;>(try split)<;>simp
theorem EO:∀ (l:List UInt8),l.length<=(zT l).length
 | []=>yu _
 | c :: r=>by
  have h1:=zgg c;have a:=EO r;simp only[zT,List.flatMap_cons,yh,yp]at *;omega
theorem EP:∀ (ts:List (List UInt8)),ts.length+Jk ts<=(Z1 ts).length
 | []=>yu _
 | t :: r=>by
  have h1:=EO t;have a:=EP r;simp only[Z1,Jk,List.flatMap_cons,yh,yp,yi,yM]at *;omega
theorem EQ(ts:List (List UInt8)):(Qh ts).length+Jk (Qh ts)<=ts.length+Jk ts:=by
 rcases List.eq_nil_or_concat ts with rfl |⟨r,t,rfl⟩
 ·exact ye _
 ·rw[List.concat_eq_append]
  cases h:JO t with
  | true=>rw[Xu h,Kf];simp;omega
  | false=>rw[Xv h];exact ye _
theorem OI{s:Bs}(h:(zK s.data.toList).isSome=true):(ZB s).length+Jk (ZB s)<=s.size:=by
 obtain⟨f,a⟩:=Option.isSome_iff_exists.1 h;have d:=EK a;have b:=EP f;rw[← Gq,d,Zg]at b;unfold ZB;rw[a];exact b
def Ge(m:zG):List (List UInt8):=if Yo m.kind then Qh (ZB m.path)else ZB m.path
def VE(m:zG):List (List UInt8):=if VN m.kind then Qh (ZB m.src)else ZB m.src
def YW(m:zG):List (List UInt8):=Z1 (Ge m) ::(if Qj m.kind then [Z1 (VE m)]else [])
def QT(m:zG):List (List UInt8):=if Zu m then YW m else []
def QU(ms:List zG):List (List UInt8):=ms.flatMap QT
def qU(ms:List zG):List (List UInt8):=if 100<ms.length then []else Qg (QU ms)
theorem ER(m:zG):(QT m).length<=2:=by unfold QT YW;split<;>(try split)<;>simp
theorem Xw:∀ (ms:List zG),(QU ms).length<=2*ms.length
 | []=>yu _
 | m :: r=>by
  have h1:=ER m;have a:=Xw r;simp only[QU,List.flatMap_cons,yh,yp]at *;omega
theorem ES{ms:List zG}{k:Nat}(h:k<ms.length):QU (ms.take (k+1))=QU (ms.take k)++QT ms[k]:=by
 unfold QU;rw[yz h,List.flatMap_append,List.flatMap_singleton]
def QH(ops:List zG):List Bs:=(qU ops).map zH
theorem ET(ts:List (List UInt8)):(Z1 (Qh ts)).length<=(Z1 ts).length:=by
 rcases List.eq_nil_or_concat ts with rfl |⟨r,t,rfl⟩
 ·exact ye _
 ·rw[List.concat_eq_append]
  cases h:JO t with
  | true=>rw[Xu h];simp[Z1]
  | false=>rw[Xv h];exact ye _
theorem EU{s:Bs}(h:(zK s.data.toList).isSome=true):(Z1 (ZB s)).length=s.size:=by
 obtain⟨d,a⟩:=Option.isSome_iff_exists.1 h;have b:=EK a;rw[Gq]at b;unfold ZB;rw[a];show (Z1 d).length=_
 rw[b,Zg]
theorem zgh{m:zG}(h1:m.path.size<=1048576)(h2:m.src.size<=1048576){t:List UInt8}(ht:t∈QT m):t.length<=1048576:=by
 unfold QT at ht;split at ht
 ·rename_i ho;simp only[Zu,Bool.and_eq_true]at ho;have b:=EU ho.1.1.2;have d:=ET (ZB m.path);simp only[YW,List.mem_cons]at ht;rcases ht with rfl | ht
  ·unfold Ge;split<;>omega
  ·split at ht
   ·rename_i hf;have a:=ho.1.2;rw[yg hf]at a;have b:=EU a;have d:=ET (ZB m.src);rw[List.mem_singleton]at ht;subst ht;unfold VE;split<;>omega
   ·simp at ht
 ·simp at ht
theorem OJ{ops:List zG}(h:Wu ops):VH (QH ops):=by
 unfold QH qU;split
 ·exact⟨by simp,fun s hs=>by simp at hs⟩
 ·rename_i hl;have d:=F9 _ (QU ops) rfl;have f:=Xw ops;refine⟨by rw[yl];omega,fun s hs=>?_⟩;obtain⟨t,a,rfl⟩:=yP.1 hs;obtain⟨m,b,a⟩:=List.mem_flatMap.1 (WW.1 a);have:=zgh (h m b).1 (h m b).2.1 a;show t.toArray.size<=_
  simpa using this
theorem EV(ops:List zG):(QH ops).length<=200:=by
 unfold QH qU;rw[yl];split
 ·simp
 ·have a:=F9 _ (QU ops) rfl;have b:=Xw ops;omega
def U3(m:zG):List (List (List UInt8)):=Ge m ::(if Qj m.kind then [VE m]else [])
def W9(ms:List zG):List (List (List UInt8)):=ms.flatMap U3
theorem EW{ms:List zG}(h:∀ m∈ms,Zu m=true)(hl:ms.length<=100){p:List (List UInt8)}(hp:p∈W9 ms):Z1 p∈qU ms:=by
 unfold qU;rw[yf (by omega),WW];obtain⟨m,a,hp⟩:=List.mem_flatMap.1 hp;refine List.mem_flatMap.2 ⟨m,a,?_⟩;unfold QT YW;rw[yg (h m a)];unfold U3 at hp;rcases List.mem_cons.1 hp with rfl | hp
 ·exact yq
 ·split at hp
  ·rename_i hf;rw[List.mem_singleton]at hp;subst hp;rw[yg hf];simp
  ·simp at hp
theorem EX(ts:List (List UInt8)):zK (Z1 ts)=some ts:=by rw[← Gq];exact Dz ts
theorem zgi{ms ns:List zG}(hm:∀ m∈ms,Zu m=true)(hn:∀ m∈ns,Zu m=true)(lm:ms.length<=100)(ln:ns.length<=100)(h:Q0 (QH ms) (QH ns)=false):W8 (W9 ms) (W9 ns):=by
 intro a j b k;have e:∀ xs:List (List UInt8),(xs.map zH).map (·.data.toList)=xs:=fun xs=>by rw[List.map_map];exact (List.map_congr_left fun x _=>rfl).trans (List.map_id _)
 unfold Q0 at h;rw[yg ⟨by have:=EV ms;omega,by have:=EV ns;omega⟩]at h;unfold QH at h;rw[e,e]at h;unfold VJ at h;rw[List.any_eq_false]at h;have i:=h _ (EW hm lm j);rw[Bool.not_eq_true,List.any_eq_false]at i;have d:=i _ (EW hn ln k);rw[DV,EX,EX]at d;refine⟨fun hp=>d ?_,fun hp=>d ?_⟩
 ·obtain⟨r,g⟩:=hp;have f:pre a b=true:=(XP a b).2 ⟨r,g.symm⟩;unfold YJ;simp only[f];split<;>simp
 ·obtain⟨r,g⟩:=hp;have f:pre b a=true:=(XP b a).2 ⟨r,g.symm⟩;unfold YJ;simp only[f];split<;>(try split)<;>simp
theorem EY(ts:List (List UInt8)):W7 ts (Qh ts):=by
 rcases List.eq_nil_or_concat ts with rfl |⟨r,t,rfl⟩
 ·exact .inl ⟨rfl,rfl⟩
 ·rw[List.concat_eq_append];refine .inr ⟨r,t,rfl,?_⟩
  cases h:JO t with
  | true=>exact .inl (Xu h)
  | false=>
   unfold JO at h;rw[Bool.or_eq_false_iff]at h;refine .inr ⟨Xv (by unfold JO;rw[h.1,h.2];rfl),?_,by simpa using h.2⟩
   cases hi:Z8 t with
   | none=>rfl
   | some i=>
    unfold Z8 at hi;split at hi
    ·rename_i hk;obtain⟨b,_,_,d⟩:=Yx.1 hk;have a:=h.1;rw[show (t.all fun c=>zP c.toNat)=true from List.all_eq_true.2 d,Bool.and_true]at a;have:t=[]:=by simpa using a
     subst this;simp at b
    ·cases hi
theorem EZ{ms:List zG}{m:zG}(hm:m∈ms):Wg (W9 ms) (ZN m)/\zo (ZN m).val:=by
 have f:∀ p,p∈U3 m->p∈W9 ms:=fun p b=>List.mem_flatMap.2 ⟨m,hm,b⟩;have b:=f _ (show Ge m∈U3 m from yq);refine⟨⟨fun a=>?_,fun a=>?_,fun a=>?_,fun a=>?_⟩,(Fc m).1⟩
 ·have a:m.kind=1∨m.kind=2∨m.kind=4∨m.kind=5:=a;have e:Yo m.kind=true:=by unfold Yo;rcases a with h | h | h | h<;>rw[h]<;>rfl
  unfold Ge at b;rw[yg e]at b;exact⟨_,b,EY _⟩
 ·have a:¬ (m.kind=1∨m.kind=2∨m.kind=4∨m.kind=5):=a;have e:¬ Yo m.kind=true:=by unfold Yo;simp only[Bool.or_eq_true,yD];omega
  unfold Ge at b;rw[yf e]at b;exact b
 ·have a:m.kind=4:=a;have d:=f (VE m) (by unfold U3;rw[yg (by rw[a];rfl)];simp);unfold VE at d;rw[yg (by rw[a];rfl)]at d;exact⟨_,d,EY _⟩
 ·have a:m.kind=5:=a;have d:=f (VE m) (by unfold U3;rw[yg (by rw[a];rfl)];simp);unfold VE at d;rw[yf (by rw[a];decide)]at d;exact d
theorem E2:∀ {os:List Zv} {v:JV} {i c j:Nat},Zw v os i= .inl (c,j)->c≠0
 | [],v,i,c,j,h=>by rw[Zw]at h;cases h
 | o :: os,v,i,c,j,h=>by
  rw[Zw]at h
  cases hd:Zl v o with
  | inl d=>rw[hd]at h;injection h with h;injection h with h _;subst h;exact Fb hd
  | inr u=>
   rw[hd]at h;simp only at h;split at h
   ·exact E2 h
   ·injection h with h;injection h with h _;omega
theorem SP:∀ {os:List Zv} {v x:JV} {i:Nat},Q5 v=true->Zw v os i= .inr x->Q5 x=true
 | [],v,x,i,hv,h=>by rw[Zw]at h;injection h with h;subst h;exact hv
 | o :: os,v,x,i,hv,h=>by
  rw[Zw]at h
  cases hd:Zl v o with
  | inl d=>rw[hd]at h;cases h
  | inr u=>
   rw[hd]at h;simp only at h;split at h
   ·rename_i hl;exact SP hl h
   ·cases h
theorem E3{s:Bs}{ms:List zG}(h:(Ze s ms).2.1=0):∃ v x,zI s= .inr v/\Zw v (ms.map ZN) 0= .inr x/\Ze s ms=(zh (ct x),0,0):=by
 unfold Ze at h ⊢
 cases hr:zI s with
 | inl c=>rw[hr]at h;cases h
 | inr v=>
  rw[hr]at h;simp only at h ⊢;by_cases a:0<=Z9 ms
  ·rw[yg a]at h;cases h
  ·rw[yf a]at h ⊢
   cases hv:Zw v (ms.map ZN) 0 with
   | inl ci=>
    rw[hv]at h;have h:(ci.1:Int)=0:=h;exact absurd (by omega) (E2 (c:=ci.1) (j:=ci.2) hv)
   | inr x=>exact⟨v,x,rfl,hv,rfl⟩
theorem E4{ms:List zG}(h:∀ m∈ms,Zu m=true)(hl:ms.length<=100):¬ 0<=Z9 ms:=by
 unfold Z9;rw[yf (by omega)];have:ms.findIdx? (fun m=>!Zu m)=none:=List.findIdx?_eq_none_iff.2 fun m hm=>by rw[h m hm];rfl
 rw[this];decide
theorem OK{x p:JV}{s:Bs}{ns:List zG}(hr:zI s= .inr x)(hb:¬ 0<=Z9 ns):(∀ j,Zw x (ns.map ZN) 0= .inl (7,j)->(Ze s ns).2.1=7)/\(Zw x (ns.map ZN) 0= .inr p->Ze s ns=(zh (ct p),0,0)):=by
 unfold Ze;rw[hr];simp only;rw[yf hb];exact⟨fun j h=>by rw[h];rfl,fun h=>by rw[h]⟩
theorem zgj{s:Bs}{ms ns:List zG}(hm:∀ m∈ms,Zu m=true)(hn:∀ m∈ns,Zu m=true)(lm:ms.length<=100)(ln:ns.length<=100)(h:Q0 (QH ms) (QH ns)=false)(h1:(Ze s ms).2.1=0)(h2:(Ze s ns).2.1=0):
  (Ze (Ze s ms).1 ns).2.1=7∨(Ze (Ze s ns).1 ms).2.1=7∨((Ze (Ze s ms).1 ns).2.1=0/\(Ze (Ze s ns).1 ms).2.1=0/\(Ze (Ze s ms).1 ns).1=(Ze (Ze s ns).1 ms).1):=by
 obtain⟨v,x,A,hx,G⟩:=E3 h1;obtain⟨I,y,b,g,H⟩:=E3 h2;rw[A]at b;injection b with b;subst b;rw[G,H];have a:=ZF.of A;have B:=LA a.dep a.cnt a.len;have w:∀ o∈ms.map ZN,Wg (W9 ms) o/\zo o.val:=fun o ho=>by obtain⟨m,hm,rfl⟩:=yP.1 ho;exact EZ hm
 have z:∀ o∈ns.map ZN,Wg (W9 ns) o/\zo o.val:=fun o ho=>by obtain⟨m,hm,rfl⟩:=yP.1 ho;exact EZ hm
 have d:=OD (SP B hx);have f:=OD (SP B g);have r:=(OG w a.t a.cnt hx).2.1;have u:=(OG z a.t a.cnt g).2.1;obtain⟨E,C⟩:=X7 r d.1 d.2.1 d.2.2;obtain⟨F,D⟩:=X7 u f.1 f.2.1 f.2.2;have l:=VA x;have n:=VA y;have i:=E4 hm lm;have k:=E4 hn ln;rcases zga (zgi hm hn lm ln h) w z a.t a.cnt hx g (fun p=>Ew p x (nv x) r C l.ct.symm) (fun p=>Ew p y (nv y) u D n.ct.symm) C D (by rw[l.cnt];exact d.2.1) (by rw[n.cnt];exact f.2.1)with ⟨j,h7⟩ |⟨j,h7⟩ |⟨p,q,hp,hq,e⟩
 ·exact .inl ((OK (p:=x) E k).1 j h7)
 ·exact .inr (.inl ((OK (p:=x) F i).1 j h7))
 ·rw[(OK (p:=p) E k).2 hp,(OK (p:=q) F i).2 hq];exact .inr (.inr ⟨rfl,rfl,by show zh (ct p)=zh (ct q);rw[e]⟩)
theorem E5{w:Wo}{xa:Option Addr}{xb xo n:Nat}{ss:List Bs}(h:SS w xa xb xo ss):SS w xa xb xo (ss.take n):=by
 refine⟨fun h0=>h.ad (by rw[ym]at h0;omega),fun j hj=>?_⟩;rw[ym]at hj;rw[h.cell j (by omega)];congr 2;simp only[List.getD_eq_getElem?_getD];rw[List.getElem?_take_of_lt (by omega)]
theorem zgk(xa:Option Addr)(xb xc:Nat)(r:List (List UInt8))(t:List UInt8)(w:Wo)(h:SS w xa xb 0 ((r++[t]).map zH))(hm:r.length+1+Jk (r++[t])<=1048576):
  (Calls prog 42 #[.slice xa r.length xc] w fun e w'=>e= .returned (.string (zh (Z1 r)))/\Bw w w') /\
  (Calls prog 42 #[.slice xa (r.length+1) xc] w fun e w'=>e= .returned (.string (zh (Z1 (r++[t]))))/\Bw w w'):=by
 rw[Kf]at hm;constructor
 ·have a:=E5 (n:=r.length) h;rw[← List.map_take,List.take_left]at a;have:=Wm xa xb 0 xc (r.map zH) w a (by rw[Kg,yl];omega);rw[yl,Gq]at this;exact this
 ·have:=Wm xa xb 0 xc ((r++[t]).map zH) w h (by rw[Kg,yl,Kf,yh];simp;omega);rw[yl,Gq,yh]at this;exact this
theorem OL{B:Nat}(v:Value)(ts:List (List UInt8))(w:Wo)(h:OT w B v ts)(hm:ts.length+Jk ts<=1048576):
  Calls prog 43 #[v] w fun e w'=>e= .returned (.string (zh (Z1 (Qh ts))))/\Bw w w':=by
 obtain⟨a,g,u,rfl,E,-⟩:=h.shape;rcases List.eq_nil_or_concat ts with rfl |⟨r,t,rfl⟩
 ·clear h E hm;go_in;go_wp2;go_ret;exact⟨rfl,yI _ _⟩
 ·rw[List.concat_eq_append]at *;rw[yh,List.length_singleton]at hm;obtain⟨s,rfl⟩:∃ s:Bs,t=s.data.toList:=⟨zh t,by simp[zh]⟩;have L:Hid (∀ wx,Bw w wx->_):=fun wx hx=>zgk a g u r s.data.toList wx (E.below hx) hm;obtain rfl:=E.ad (by simp);have c0:=E.cell r.length (by simp);rw[show ((r++[s.data.toList]).map zH).getD r.length ByteArray.empty=s by simp[List.getD_eq_getElem?_getD,zH],Nat.zero_add]at c0;have I:(r++[s.data.toList]).length=r.length+1:=by simp
  have W:r.length<=u:=by
   rcases h.2 with ⟨F,T⟩ |⟨g',M,S,F,_,_,U,_⟩
   ·simp at T
   ·injection F with _ _ F;rw[F];rw[I]at U;omega
  have N:(r.length:Int)<=(u:Int):=by omega
  rw[I];have X:r.length<=1048576:=by omega
  have Y:s.size<=1048576:=by rw[Kf,Zg]at hm;omega
  have b:Hid (JO s.data.toList=true->Qh (r++[s.data.toList])=r):=Xu;have j:Hid (JO s.data.toList=false->Qh (r++[s.data.toList])=r++[s.data.toList]):=Xv;have A:Hid ((!s.toList.isEmpty)=(s.data.toList !=[])):=by show _=_;rw[ByteArray.toList_eq];cases s.data.toList<;>rfl
  clear h E hm I;generalize hR:r.length=n at *;generalize Qh (r++[s.data.toList])=sh at *;have K:Hid (∀ (k:Nat) (O:k<s.size) (w:Wo),Calls prog 90 #[.int .u8 (s[k].toNat:Int)] w (Rk (.bool (zP s[k].toNat)) w)):=fun k O w=>PK s[k].toNat w;go_in;go_wp2;go_loopw [5,6] (fun d i wr=>∃ k:Nat,k<=s.size/\i= .int .i64 k/\d= .bool (s.data.toList !=[] && (s.data.toList.take k).all fun c=>zP c.toNat)/\Bw w wr) (fun _ i _=>s.size - (intOf i).toNat)
  case atStart=>exact⟨0,yu _,rfl,by simpa using uh A,yI _ _⟩
  case round=>
   obtain⟨k,O,rfl,rfl,y⟩:=hrel;by_cases C:k<s.size
   ·have P:(k:Int)<(s.size:Int):=by omega
    have o:=Ua s k C;have G:=ze (uh K k C);have x:=ze y
    cases hdg:(s.data.toList !=[] && (s.data.toList.take k).all fun c=>zP c.toNat)with
    | true=>
     have q:Hid ((s.data.toList !=[] && (s.data.toList.take (k+1)).all fun c=>zP c.toNat)=zP s[k].toNat):=by
      show _=_
      rw[o,List.all_append,← Bool.and_assoc,hdg];simp
     generalize zP s[k].toNat=z at *;clear hdg o y;go_wp2_with fail;refine (uh G _).mono ?_;rintro e J ⟨rfl,rfl⟩;go_wp2;go_roundw
     case rel=>exact⟨k+1,by omega,by go_num,by rw[uh q],uh x⟩
     case measure=>simp[intOf];omega
    | false=>
     have q:Hid ((s.data.toList !=[] && (s.data.toList.take (k+1)).all fun c=>zP c.toNat)=false):=by
      show _=_
      rw[o,List.all_append,← Bool.and_assoc,hdg];simp
     clear hdg o y;go_wp2;go_roundw
     case rel=>exact⟨k+1,by omega,by go_num,by rw[uh q],uh x⟩
     case measure=>simp[intOf];omega
   ·have H:k=s.size:=by omega
    subst H;rw[XA];have x:=ze y;obtain⟨Q,R⟩:=uh L wr y;have l:=ze Q;have m:=ze R;clear L Q R K A y;have D:JO s.data.toList=((s.data.toList !=[] && s.data.toList.all fun c=>zP c.toNat) || s.data.toList ==[45]):=rfl;have V:(s.toList ==[45])=(s.data.toList ==[45]):=by rw[ByteArray.toList_eq]
    rw[D]at b j;clear D;generalize (s.data.toList !=[] && s.data.toList.all fun c=>zP c.toNat)=dg at *;generalize (s.data.toList ==[45])=Z at *
    cases dg with
    | true=>
     obtain rfl:=uh b rfl;clear b j m;go_wp2_with fail;refine (uh l).mono ?_;rintro e J ⟨rfl,p⟩;have f:=ze (zi (uh x) p);clear p l;go_wp2;go_ret;exact⟨rfl,uh f⟩
    | false=>
     cases Z with
     | true=>
      obtain rfl:=uh b rfl;clear b j m;go_wp2_with fail;refine (uh l).mono ?_;rintro e J ⟨rfl,p⟩;have f:=ze (zi (uh x) p);clear p l;go_wp2;go_ret;exact⟨rfl,uh f⟩
     | false=>
      obtain rfl:=uh j rfl;clear b j l;go_wp2_with fail;refine (uh m).mono ?_;rintro e J ⟨rfl,p⟩;have f:=ze (zi (uh x) p);clear p m;go_wp2;go_ret;exact⟨rfl,uh f⟩
theorem E6(v:Value)(ms:List zG)(bl:List Nat)(w:Wo)(h:Zr Yk w v ms bl)(hs:Yl ms<=1048576):
  Calls prog 14 #[v] w fun e w'=>∃ r,e= .returned r/\OT w' w.heap.size r (qU ms)/\Bw w w':=by
 have hin:=NG hs;obtain⟨xa,xc,rfl,-,hxa⟩:=h.form;have hln:ms.length<=1048576:=by unfold Yl at hs;omega
 have H:=ze h;have HXA:=ze hxa;have HIN:=ze hin;have HO0:Hid (OT (w.alloc (.cells #[] 9)) w.heap.size (.slice (some ⟨w.heap.size,0,none⟩) 0 0) []):=World.ownsRow_lit w #[] 0 (ye _) (by unfold maxLen;omega) rfl;have HB0:Hid (Bw w (w.alloc (.cells #[] 9))):=(yI _ _).alloc (ye _) _;clear h hxa hs hin;by_cases L:100<ms.length
 ·have t100:(100:Int)<(ms.length:Int):=by omega
  have HZ:Hid (qU ms=[]):=by show _=_;unfold qU;rw[yg L]
  go_in;go_wp2;go_ret;exact⟨_,rfl,by rw[uh HZ];exact uh HO0,uh HB0⟩
 ·have t100:¬ (100:Int)<(ms.length:Int):=by omega
  have HZ:Hid (qU ms=Qg (QU ms)):=by show _=_;unfold qU;rw[yf L]
  go_in;go_wp2;go_loopw [3,4] (fun lv i wr=>∃ k:Nat,k<=ms.length/\i= .int .i64 k/\OT wr w.heap.size lv (QU (ms.take k))/\Bw w wr) (fun _ i _=>ms.length - (intOf i).toNat)
  case atStart=>exact⟨0,yu _,rfl,uh HO0,uh HB0⟩
  case round=>
   obtain⟨k,hk,rfl,ho,y⟩:=hrel;have hal:(QU (ms.take k)).length<=1000:=by
    have:=Xw (ms.take k);rw[ym]at this;omega
   have q:=ze ho;have M:=ze y;have hbz:=y.size;by_cases Z:k<ms.length
   ·have V:Hid (QU (ms.take (k+1))=QU (ms.take k)++QT ms[k]):=ES Z;obtain⟨g,rfl⟩:=uh HXA (by omega);obtain⟨cs,ib,hE,hc,-⟩:=((uh H).below y).at (yy Z);obtain⟨rfl,-⟩:=hE;obtain⟨i1,i2,i3⟩:=uh HIN ms[k] (yt Z);have c0:wr.cell? ⟨g,k*4,none⟩=some (.int .i64 ms[k].kind):=(hc 0 _ rfl).1;have c1:wr.cell? ⟨g,k*4+1,none⟩=some (.string ms[k].path):=(hc 1 _ rfl).1;have c2:wr.cell? ⟨g,k*4+2,none⟩=some (.string ms[k].src):=(hc 2 _ rfl).1;have c3:wr.cell? ⟨g,k*4+3,none⟩=some (.string ms[k].val):=(hc 3 _ rfl).1;clear hc ho y;generalize ms[k]=m at *;generalize QU (ms.take k)=A at *;have hA:=zY wr (.cells #[.int .i64 m.kind,.string m.path,.string m.src,.string m.val] 59);have kA:=yH wr (.cells #[.int .i64 m.kind,.string m.path,.string m.src,.string m.val] 59);have zA:(wr.alloc (.cells #[.int .i64 m.kind,.string m.path,.string m.src,.string m.val] 59)).heap.size=wr.heap.size+1:=by simp
    have HOK:=ze (NE m (wr.alloc (.cells #[.int .i64 m.kind,.string m.path,.string m.src,.string m.val] 59)) i1 i2 i3);have HA:=ze hA;have HKA:=ze kA;have W:=ze zA;clear hA kA zA;go_wp2_with fail;generalize (wr.alloc (.cells #[.int .i64 m.kind,.string m.path,.string m.src,.string m.val] 59))=wA at *;refine (uh HOK).mono ?_;rintro e w2 ⟨rfl,X⟩;have b02:=zi (uh HA) X;have k2:=(X.block wr.heap.size (by have:=uh W;omega)).trans (uh HKA);have T:Hid (wr.heap.size<w2.heap.size):=by show _<_;have:=uh W;have:=X.size;omega
    have s:=ze b02;have HK2:=ze k2;have d1:w2.cell? ⟨wr.heap.size,1,none⟩=some (.string m.path):=yG k2 1;clear c0 c1 c2 c3 X k2 b02 HA HKA W HOK
    cases hok:Zu m with
    | false=>
     have HT:Hid (QT m=[]):=by show _=_;unfold QT;rw[hok];rfl
     have HBN:=ze (zi (uh M) (uh s));have HON:=ze (Zd (uh q) (uh s));clear hok;go_wp2;go_roundw
     case rel=>exact⟨k+1,by omega,by go_num,by rw[uh V,uh HT,yT];exact uh HON,uh HBN⟩
     case measure=>simp[intOf];omega
    | true=>
     obtain⟨q1,q6,qp,qs,-,-,-⟩:=EN hok;have C:Hid (QT m=YW m):=by show _=_;unfold QT;rw[hok];rfl
     have lp:=OI qp;have ls:=OI qs;have lps:=EQ (ZB m.path);have lss:=EQ (ZB m.src);have u:Hid ((ZB m.path).length+Jk (ZB m.path)<=1048576/\(ZB m.src).length+Jk (ZB m.src)<=1048576):=⟨by omega,by omega⟩;have S:=ze (Gl m.path w2 i1);have f:Hid (∀ wx,Calls prog 41 #[.string m.src] wx fun e w'=>∃ v,e= .returned (.tuple #[v,.bool (zK m.src.data.toList).isSome])/\OT w' wx.heap.size v (ZB m.src)/\Bw wx w'):=fun wx=>Gl m.src wx i2;rw[qp]at S;rw[qs]at f;clear hok lp ls lps lss qp qs i1 i2 i3;go_wp2_with fail;refine (uh S).mono ?_;rintro e w3 ⟨pv,rfl,op3,b3⟩;have k3:=(b3.block wr.heap.size (uh T)).trans (uh HK2);have d2:w3.cell? ⟨wr.heap.size,2,none⟩=some (.string m.src):=yG k3 2;have HB3:=ze (zi (uh s) b3);have ZL:Hid (wr.heap.size<w3.heap.size):=yF (uh T) b3.size;have HO3:Hid (OT w3 w2.heap.size pv (ZB m.path)):=op3;have HK3:=ze k3;have K:=ze (uh f w3);clear S f op3 b3 k3 d1 s HK2;go_wp2_with fail;refine (uh K).mono ?_;rintro e J ⟨fv,rfl,of4,b4⟩;have k4:=(b4.block wr.heap.size (uh ZL)).trans (uh HK3);have e0:J.cell? ⟨wr.heap.size,0,none⟩=some (.int .i64 m.kind):=yG k4 0;have I:=ze (zi (uh HB3) b4);have HS4:Hid (wr.heap.size<J.heap.size):=yF (uh ZL) b4.size;have f:=ze (Zd (uh HO3) b4);have O:Hid (OT J w3.heap.size fv (ZB m.src)):=of4;have P:=ze k4;clear K of4 b4 k4 d2 HB3 HK3 HO3 T;obtain⟨l,a,j,val⟩:=m;simp only at q1 q6 e0;have hkk:l=1∨l=2∨l=3∨l=4∨l=5∨l=6:=by omega
     clear q1 q6;rcases hkk with rfl | rfl | rfl | rfl | rfl | rfl
     all_goals
      first
       |(
         have D:Hid (QT ⟨_,a,j,val⟩=[Z1 (Qh (ZB a))]):=uh C;have HC:=ze (OL pv _ J (uh f) (uh u).1);generalize Z1 (Qh (ZB a))=G at *)
       |(
         have D:Hid (QT ⟨_,a,j,val⟩=[Z1 (ZB a)]):=uh C;have HC:=ze (D4 pv _ J (uh f) (uh u).1);generalize Z1 (ZB a)=G at *)
       |(
         have D:Hid (QT ⟨_,a,j,val⟩=[Z1 (Qh (ZB a)),Z1 (Qh (ZB j))]):=uh C;have HC:=ze (OL pv _ J (uh f) (uh u).1);have N:=ze fun wx (h:OT wx w3.heap.size fv (ZB j))=>OL fv _ wx h (uh u).2;generalize Z1 (Qh (ZB a))=G,Z1 (Qh (ZB j))=x2 at *)
       |(
         have D:Hid (QT ⟨_,a,j,val⟩=[Z1 (Qh (ZB a)),Z1 (ZB j)]):=uh C;have HC:=ze (OL pv _ J (uh f) (uh u).1);have N:=ze fun wx (h:OT wx w3.heap.size fv (ZB j))=>D4 fv _ wx h (uh u).2;generalize Z1 (Qh (ZB a))=G,Z1 (ZB j)=x2 at *)
      clear C;go_wp2_with fail;refine (uh HC).mono ?_;rintro e w5 ⟨rfl,b5⟩;have hC:=zY w5 (.cells #[.string (zh G)] 9);have x:=zi b5 hC;have cC:(w5.alloc (.cells #[.string (zh G)] 9)).cell? ⟨w5.heap.size,0,none⟩=some (.string (zh G)):=yG (yH w5 (.cells #[.string (zh G)] 9)) 0;have n:=ze cC;have o:=ze (Zd (uh q) (zi (uh I) x));have d:=ze (zi (uh I) x);have Q:=ze ((x.block wr.heap.size (uh HS4)).trans (uh P));have z:=ze (Zd (uh O) x);have U:Hid (J.heap.size<=(w5.alloc (.cells #[.string (zh G)] 9)).heap.size):=x.size;have HS5:Hid (J.heap.size<=w5.heap.size):=b5.size;clear hC x cC b5 HC e0;go_wp2_with (at_builtin;first | refine Gn rfl (.tmp 53) (.tmp 56) rfl (B:=w.heap.size) rfl (uh o) rfl (uh n) (by have h1:=(uh d).size;omega) (by omega) ?_ | refine Gn rfl (.tmp 48) (.tmp 51) rfl (B:=w.heap.size) rfl (uh o) rfl (uh n) (by have h1:=(uh d).size;omega) (by omega) ?_);generalize (w5.alloc (.cells #[.string (zh G)] 9))=wC at *;intro l6 w6 o6 g6 wh6;have F:∀ b,wr.heap.size<=b->¬ some b=u3.ownBlock:=fun b y e=>by have h1:=((uh q).lt b e.symm).2;omega
      have hzC:=uh U;have hz4:=uh HS4;have k6:=(g6.block wr.heap.size (by omega) (F _ (ye _))).trans (uh Q);have HB6:=ze ((zi (uh M) (uh d)).grown g6 (by have:=(uh d).size;omega) (fun b y=>((uh q).lt b y).1));have e6:w6.cell? ⟨wr.heap.size,0,none⟩=some (.int .i64 _):=yG k6 0;have R:=ze o6
      first
       |(
        have HC7:=ze (uh N w6 (Hc (uh z) (fun b y=>g6.block b ((uh z).lt b y).2 (F b (by have h1:=((uh z).lt b y).1;have h2:=uh ZL;omega)))));have HNE6:Hid (¬ some wr.heap.size=l6.ownBlock):=fun e=>by
         rcases wh6 with h | h
         ·exact F _ (ye _) (e.trans h)
         ·rw[h]at e;injection e with e;have:=uh HS5;omega
        have HK6:=ze k6;clear k6 g6 o6 wh6 o n d Q z U hzC hz4 F O f P I N;go_wp2_with fail;refine (uh HC7).mono ?_;rintro e w7 ⟨rfl,b7⟩;have hC:=zY w7 (.cells #[.string (zh x2)] 9);have E:=zi b7 hC;have cC:(w7.alloc (.cells #[.string (zh x2)] 9)).cell? ⟨w7.heap.size,0,none⟩=some (.string (zh x2)):=yG (yH w7 (.cells #[.string (zh x2)] 9)) 0;have n:=ze cC;have o:=ze (Zd (uh R) E);have d:=ze (zi (uh HB6) E);have e7:=(b7.cell (p:=⟨wr.heap.size,0,none⟩) (yK _ _ e6)).trans e6;have HKD:=ze ((E.block wr.heap.size (yK _ _ e6)).trans (uh HK6));have HSD:Hid (wr.heap.size<(w7.alloc (.cells #[.string (zh x2)] 9)).heap.size):=yF (yK _ _ e6) E.size;clear hC E cC HC7 b7 e6;have Y:(A++[G]).length<=1000000:=by rw[yh,List.length_singleton];omega
        go_wp2_with (at_builtin;first | refine Gn rfl (.tmp 61) (.tmp 64) rfl (B:=w.heap.size) rfl (uh o) rfl (uh n) (by have h1:=(uh d).size;omega) Y ?_ | refine Gn rfl (.tmp 69) (.tmp 72) rfl (B:=w.heap.size) rfl (uh o) rfl (uh n) (by have h1:=(uh d).size;omega) Y ?_);generalize (w7.alloc (.cells #[.string (zh x2)] 9))=wD at *;intro l8 w8 o8 g8 wh8;clear wh8;have HB8:=ze ((uh d).grown g8 (by have:=(uh d).size;omega) (fun b y=>((uh R).lt b y).1));have HO8:=ze o8;have k8:=(g8.block wr.heap.size (uh HSD) (uh HNE6)).trans (uh HKD);have e8:w8.cell? ⟨wr.heap.size,0,none⟩=some (.int .i64 _):=yG k8 0;clear k8 g8 o8 e7 o n d HKD HSD Y;go_wp2;go_roundw
        case rel=>exact⟨k+1,by omega,by go_num,by rw[uh V,uh D];exact uh HO8,uh HB8⟩
        case measure=>simp[intOf];omega)
       |(
        clear k6 g6 o6 wh6 o n d Q z U hzC hz4 F O f P I;go_wp2;go_roundw
        case rel=>exact⟨k+1,by omega,by go_num,by rw[uh V,uh D];exact uh R,uh HB6⟩
        case measure=>simp[intOf];omega)
   ·have hkn:k=ms.length:=by omega
    subst hkn;rw[List.take_length]at q hal;have HC:=ze (zdX _ _ wr (uh q) (by omega));clear ho y;go_wp2_with fail;refine (uh HC).mono ?_;rintro e w2 ⟨r,rfl,o2,X⟩;have HO2:=ze (QO o2 hbz);have s:=ze (zi (uh M) X);clear HC o2 X;go_wp2;go_ret;exact⟨r,rfl,by rw[uh HZ];exact uh HO2,uh s⟩
def OM:Bs:=⟨#[48,49,50,51,52,53,54,55,56,57]⟩
theorem zgl(c:UInt8):(OM.data.toList.contains c)=zP c.toNat:=by
 rw[Bool.eq_iff_iff,Qx];show ([48,49,50,51,52,53,54,55,56,57]:List UInt8).contains c=true↔_
 rw[List.contains_iff_mem];constructor
 ·intro h;simp only[List.mem_cons,List.not_mem_nil,or_false]at h;rcases h with rfl | rfl | rfl | rfl | rfl | rfl | rfl | rfl | rfl | rfl<;>decide
 ·rintro⟨a,b⟩;have e:c=UInt8.ofNat c.toNat:=by rw[UInt8.ofNat_toNat]
  have:c.toNat=48∨c.toNat=49∨c.toNat=50∨c.toNat=51∨c.toNat=52∨c.toNat=53∨c.toNat=54∨c.toNat=55∨c.toNat=56∨c.toNat=57:=by omega
  rcases this with h | h | h | h | h | h | h | h | h | h<;>(rw[h]at e;subst e;decide)
theorem zgm(t:List UInt8):Lib.trimLeftS t OM.data.toList=t.dropWhile fun c=>zP c.toNat:=by
 unfold Lib.trimLeftS;congr 1;funext c;exact zgl c
theorem E7:∀ (t:List UInt8),(t.dropWhile fun c=>zP c.toNat)=[]↔t.all (fun c=>zP c.toNat)=true
 | []=>by simp
 | c :: r=>by
  rw[List.dropWhile_cons,List.all_cons]
  cases h:zP c.toNat with
  | true=>simpa using E7 r
  | false=>simp
theorem zgn(s:Bs)(w:Wo):
  Calls prog 187 #[.string s,.string OM] w fun e w'=>e= .returned (.string (zh (s.data.toList.dropWhile fun c=>zP c.toNat)))/\Bw w w':=by
 have:=Any.strings_TrimLeft_laid Tryz.laysTrim (by kernel_rfl) s OM w (by decide) (ascii_of_all (by decide));rw[zgm]at this;exact this
theorem zgo{B:Nat}(v:Value)(ts:List (List UInt8))(w:Wo)(h:OT w B v ts)(hm:ts.length+Jk ts<=1048576):
  Calls prog 108 #[v] w fun e w'=>e= .returned (.string (zh (Z1 ts)))/\Bw w w':=by
 obtain⟨a,g,b,rfl,d,_⟩:=h.shape;have e:ts.length=(ts.map zH).length:=by simp
 have:=Nu a g 0 b (ts.map zH) w d (by rw[Kg,← e];exact hm);rw[← e,Gq]at this;exact this
theorem zgp(xa:Option Addr)(xb xc:Nat)(r:List (List UInt8))(t:List UInt8)(w:Wo)(h:SS w xa xb 0 ((r++[t]).map zH))(hm:r.length+1+Jk (r++[t])<=1048576):
  Calls prog 108 #[.slice xa r.length xc] w fun e w'=>e= .returned (.string (zh (Z1 r)))/\Bw w w':=by
 rw[Kf]at hm;have a:=E5 (n:=r.length) h;rw[← List.map_take,List.take_left]at a;have:=Nu xa xb 0 xc (r.map zH) w a (by rw[Kg,yl];omega);rw[yl,Gq]at this;exact this
theorem zgq(s:Bs)(w:Wo):
  Calls prog 139 #[.string s] w fun e w'=>e= .returned (.bool (JO s.data.toList))/\Bw w w':=by
 have i:(s.toList ==[45])=(s.data.toList ==[45]):=by rw[ByteArray.toList_eq]
 have j:s.toList.isEmpty=(s.data.toList ==[]):=by rw[ByteArray.toList_eq];cases s.data.toList<;>rfl
 have d:=ze (zgn s w);have b:(zh (s.data.toList.dropWhile fun c=>zP c.toNat)).toList.isEmpty=s.data.toList.all fun c=>zP c.toNat:=by
  rw[ByteArray.toList_eq,Bool.eq_iff_iff,List.isEmpty_iff];exact E7 s.data.toList
 have a:JO s.data.toList=((!(s.data.toList ==[]) && s.data.toList.all fun c=>zP c.toNat) || s.data.toList ==[45]):=rfl;rw[a];clear a;generalize zh (s.data.toList.dropWhile fun c=>zP c.toNat)=m at *;generalize (s.data.toList.all fun c=>zP c.toNat)=l at *;generalize (s.data.toList ==[])=h at *;generalize (s.data.toList ==[45])=k at *
 cases k with
 | true=>
  clear d b;go_in;go_wp2;go_ret;exact⟨by simp,yI _ _⟩
 | false=>
  cases h with
  | true=>
   clear d b;go_in;go_wp2;go_ret;exact⟨by simp,yI _ _⟩
  | false=>
   go_in;go_wp2_with fail;refine (uh d).mono ?_;rintro e n ⟨rfl,f⟩;have g:=ze f;clear f d;go_wp2;go_ret;exact⟨by simp,uh g⟩
theorem E8{B:Nat}(b:Bool)(v:Value)(ts:List (List UInt8))(w:Wo)(h:OT w B v ts)(hm:ts.length+Jk ts<=1048576):
  Calls prog 97 #[v,.bool b] w fun e w'=>e= .returned (.string (zh (Z1 (if b then Qh ts else ts))))/\Bw w w':=by
 have d:Hid (∀ wx,Bw w wx->Calls prog 108 #[v] wx (Rb (.string (zh (Z1 ts))) wx)):=fun wx hx=>zgo v ts wx (Zd h hx) hm
 cases b with
 | false=>
  obtain⟨a,g,j,rfl,-,-⟩:=h.shape;have x:ts.length<=1048576:=by omega
  rw[yf (by simp)];have HC:=ze (uh d w (yI _ _));clear h hm d;go_in;go_wp2_with fail;refine (uh HC).mono ?_;rintro e q ⟨rfl,f⟩;have k:=ze f;clear f HC;go_wp2;go_ret;exact⟨rfl,uh k⟩
 | true=>
  rw[yg rfl];obtain⟨a,g,j,rfl,p,-⟩:=h.shape;rcases List.eq_nil_or_concat ts with rfl |⟨r,t,rfl⟩
  ·have HC:=ze (uh d w (yI _ _));clear h p hm d;go_in;go_wp2_with fail;refine (uh HC).mono ?_;rintro e q ⟨rfl,f⟩;have k:=ze f;clear f HC;go_wp2;go_ret;exact⟨rfl,uh k⟩
  ·rw[List.concat_eq_append]at *;obtain⟨s,rfl⟩:∃ s:Bs,t=s.data.toList:=⟨zh t,by simp[zh]⟩;rw[yh,List.length_singleton]at hm;have z:Hid (∀ wx,Bw w wx->_):=fun wx hx=>zgp a g j r s.data.toList wx (p.below hx) hm;obtain rfl:=p.ad (by simp);have c0:=p.cell r.length (by simp);rw[show ((r++[s.data.toList]).map zH).getD r.length ByteArray.empty=s by simp[List.getD_eq_getElem?_getD,zH],Nat.zero_add]at c0;have x:(r++[s.data.toList]).length=r.length+1:=by simp
   have G:r.length<=j:=by
    rcases h.2 with ⟨y,E⟩ |⟨K,A,D,y,_,_,F,_⟩
    ·simp at E
    ·injection y with _ _ y;rw[y];rw[x]at F;omega
   have C:(r.length:Int)<=(j:Int):=by omega
   rw[x]at d ⊢;have H:r.length<=1048576:=by omega
   have m:Hid (JO s.data.toList=true->Qh (r++[s.data.toList])=r):=Xu;have l:Hid (JO s.data.toList=false->Qh (r++[s.data.toList])=r++[s.data.toList]):=Xv;have u:=ze (zgq s w);clear h p hm x;generalize hR:r.length=n at *;clear hR;generalize Qh (r++[s.data.toList])=L at *;generalize JO s.data.toList=I at *
   cases I with
   | true=>
    obtain rfl:=uh m rfl;clear m l d;go_in;go_wp2_with fail;refine (uh u).mono ?_;rintro e q ⟨rfl,f⟩;have HC:=ze (uh z q f);have i:=ze f;clear u z f c0;go_wp2_with fail;refine (uh HC).mono ?_;rintro e J ⟨rfl,o⟩;have k:=ze (zi (uh i) o);clear o HC i;go_wp2;go_ret;exact⟨rfl,uh k⟩
   | false=>
    obtain rfl:=uh l rfl;clear m l z;go_in;go_wp2_with fail;refine (uh u).mono ?_;rintro e q ⟨rfl,f⟩;have HC:=ze (uh d q f);have i:=ze f;clear u d f c0;go_wp2_with fail;refine (uh HC).mono ?_;rintro e J ⟨rfl,o⟩;have k:=ze (zi (uh i) o);clear o HC i;go_wp2;go_ret;exact⟨rfl,uh k⟩
theorem zgr(w:Wo)(x:List UInt8):OT (w.alloc (.cells #[.string (zh x)] 9)) w.heap.size (.slice (some ⟨w.heap.size,0,none⟩) 1 1) [x]:=
 World.ownsRow_lit w #[.string (zh x)] 1 (ye _) (by unfold maxLen;omega) rfl
theorem zgs(m:zG)(B g:Nat)(pv fv vv:Value)(v:JV)(w:Wo)(h:UY w B m g pv fv vv v)(hok:Zu m=true)(h1:m.path.size<=1048576)(h2:m.src.size<=1048576):
  Calls prog 48 #[.pointer (some ⟨g,0,none⟩)] w fun e w'=>∃ r,e= .returned r/\OT w' w.heap.size r (YW m)/\Bw w w':=by
 obtain⟨i0,hi,P,Q,R⟩:=info_parts Vi;obtain⟨-,-,Y,qs,-,-,-⟩:=EN hok;have lp:=OI Y;have ls:=OI qs;have kb:=h.blk;have O:g<w.heap.size:=(yC.1 kb).1;have i:Hid (∀ wx,Bw w wx->wx.heap[g]?=some (GY m.kind pv fv vv)):=fun wx hx=>(hx.block g O).trans kb;have T:Hid (∀ wx,Bw w wx->Calls prog 97 #[pv,.bool (Yo m.kind)] wx (Rb (.string (zh (Z1 (Ge m)))) wx)):=fun wx hx=>E8 _ pv _ wx (Zd h.path hx) (by omega);have S:Hid (∀ wx,Bw w wx->Calls prog 97 #[fv,.bool (VN m.kind)] wx (Rb (.string (zh (Z1 (VE m)))) wx)):=fun wx hx=>E8 _ fv _ wx (Zd h.src hx) (by omega);have a:Hid (YW m=Z1 (Ge m) ::(if Qj m.kind then [Z1 (VE m)]else [])):=rfl;have l:Bw w w.drew:=(yI _ _).drew;have kd:=uh i w.drew l;unfold GY at kd i;clear h hok Y qs lp ls kb h1 h2;generalize Z1 (Ge m)=n at *;generalize Z1 (VE m)=C at *;generalize Yo m.kind=sp at *;generalize VN m.kind=sf at *;generalize YW m=Z at *;have d7:w.drew.cell? ⟨g,7,none⟩=some pv:=yG kd 7;have d5:w.drew.cell? ⟨g,5,none⟩=some (.bool sp):=yG kd 5;have G:=ze (uh T w.drew l);clear kd T;go_in;go_wp2_with fail;go_region_law (go_simp;refine (uh G).mono ?_;rintro e p ⟨rfl,U⟩)
 all_goals (
  have s:=zi l U;have W:=zY p (.cells #[.string (zh n)] 9);have M:=zi s W;have X:=uh i _ M;have z:=s.size;have zA:(p.alloc (.cells #[.string (zh n)] 9)).heap.size=p.heap.size+1:=by simp
  have q:=ze (QO (zgr p n) z);have d:=ze M;have y:(p.alloc (.cells #[.string (zh n)] 9)).cell? ⟨g,2,none⟩=some (.bool (Qj m.kind)):=yG X 2;have HZA:Hid (w.heap.size<(p.alloc (.cells #[.string (zh n)] 9)).heap.size):=by show _<_;omega
  have HZ2:Hid (w.heap.size<=p.heap.size):=z;clear s W M z zA U d7 d5 G X l
  cases hf:Qj m.kind with
  | false=>
   rw[hf]at a y;have L:Hid (Z=[n]):=uh a;clear hf a;go_wp2;go_ret;exact⟨_,rfl,by rw[uh L];exact uh q,uh d⟩
  | true=>
   rw[hf]at a y;have L:Hid (Z=[n]++[C]):=uh a;generalize hwA:p.alloc (.cells #[.string (zh n)] 9)=A at *;clear hf a hwA;have k:Bw A A.drew:=(yI _ _).drew;have kd:=uh i A.drew (zi (uh d) k);have e8:A.drew.cell? ⟨g,8,none⟩=some fv:=yG kd 8;have e4:A.drew.cell? ⟨g,4,none⟩=some (.bool sf):=yG kd 4;have E:=ze (uh S A.drew (zi (uh d) k));clear kd S;go_wp2_with fail;go_region_law (first
    |(
      go_simp;refine (uh E).mono ?_;rintro e I ⟨rfl,V⟩;have x:=zi k V;have N:=zY I (.cells #[.string (zh C)] 9);have F:=ze (Zd (Zd (uh q) x) N);have D:Hid (∀ j u,[Value.string (zh C)][j]?=some u->(I.alloc (.cells #[.string (zh C)] 9)).cell? ((⟨I.heap.size,0,none⟩:Addr).add j)=some u):=Qi _ _ _;have f:=ze (zi (uh d) (zi x N));clear N)
    |(
      refine Xp rfl (.tmp 20) (.tmp 31) 30 rfl w.heap.size 9 i0 (.string ByteArray.empty) 1 16 underlying30 hi P Q R rfl (by decide) _ _ _ rfl (by exact uh F) ⟨I.heap.size,0,none⟩ 1 1 [.string (zh C)] rfl rfl (by exact uh D) (Vj _) (by rw[List.length_singleton];unfold maxLen;decide) (by rw[List.length_singleton];decide) (by exact (uh f).size) ?_;intro v5 w5 o H))
   all_goals (
    have J:=ze ((uh f).grown H (uh f).size (fun b hb=>((uh q).lt b hb).1));have K:Hid (OT w5 w.heap.size v5 ([n]++[C])):=o;clear o H F D f V x k e8 e4 E y;go_wp2;go_ret;exact⟨v5,rfl,by rw[uh L];exact uh K,uh J⟩))
theorem E9(v:Value)(ms:List zG)(bl:List Nat)(w:Wo)(h:Zr Yk w v ms bl)(hs:Yl ms<=1048576)(hw:qQ w):
  Calls prog 16 #[v] w fun e w'=>∃ r,e= .returned r/\OT w' w.heap.size r (qU ms)/\Bw w w':=by
 have M:=NG hs;obtain⟨xa,xc,rfl,-,N⟩:=h.form;have hln:ms.length<=1048576:=by unfold Yl at hs;omega
 have H:=ze h;have ah:=ze N;have ab:=ze M;have HW:=ze hw;clear h N hs M hw;have D:Hid (OT w w.heap.size (.slice none 0 0) []):=⟨rfl,.inl ⟨rfl,rfl⟩⟩;by_cases p:100<ms.length
 ·have S:(100:Int)<(ms.length:Int):=by omega
  have HZ:Hid (qU ms=[]):=by show _=_;unfold qU;rw[yg p]
  go_in;go_wp2;go_ret;exact⟨_,rfl,by rw[uh HZ];exact uh D,yI _ _⟩
 ·have S:¬ (100:Int)<(ms.length:Int):=by omega
  have HZ:Hid (qU ms=Qg (QU ms)):=by show _=_;unfold qU;rw[yf p]
  go_in;go_wp2;go_loopw [3,13] (fun lv i wr=>∃ k:Nat,k<=ms.length/\i= .int .i64 k/\OT wr w.heap.size lv (QU (ms.take k))/\Bw w wr) (fun _ i _=>ms.length - (intOf i).toNat)
  case atStart=>exact⟨0,yu _,rfl,uh D,yI _ _⟩
  case round=>
   obtain⟨k,hk,rfl,ho,j⟩:=hrel;have hal:(QU (ms.take k)).length<=1000:=by
    have:=Xw (ms.take k);rw[ym]at this;omega
   have d:=ze ho;have l:=ze j;have hbz:=j.size;by_cases u:k<ms.length
   ·have F:Hid (QU (ms.take (k+1))=QU (ms.take k)++QT ms[k]):=ES u;obtain⟨g,rfl⟩:=uh ah (by omega);obtain⟨cs,ib,hE,L,-⟩:=((uh H).below j).at (yy u);obtain⟨rfl,-⟩:=hE;obtain⟨O,P,W⟩:=uh ab ms[k] (yt u);have c0:wr.cell? ⟨g,k*4,none⟩=some (.int .i64 ms[k].kind):=(L 0 _ rfl).1;have c1:wr.cell? ⟨g,k*4+1,none⟩=some (.string ms[k].path):=(L 1 _ rfl).1;have c2:wr.cell? ⟨g,k*4+2,none⟩=some (.string ms[k].src):=(L 2 _ rfl).1;have c3:wr.cell? ⟨g,k*4+3,none⟩=some (.string ms[k].val):=(L 3 _ rfl).1;clear L ho j;generalize ms[k]=m at *;generalize QU (ms.take k)=A at *;have V:=zY wr (.cells #[.int .i64 m.kind,.string m.path,.string m.src,.string m.val] 59);have o:=(uh HW).up (zi (uh l) V);have HA:=ze V
    cases hok:Zu m with
    | false=>
     have C:=ze (CR m _ hok o O P W);have U:Hid (QT m=[]):=by show _=_;unfold QT;rw[hok];rfl
     clear hok o V O P W;go_wp2_with fail;generalize (wr.alloc (.cells #[.int .i64 m.kind,.string m.path,.string m.src,.string m.val] 59))=wA at *;refine (uh C).mono ?_;rintro e X ⟨rfl,I⟩;have a:=ze (zi (uh HA) I);have Z:=ze (zi (uh l) (uh a));have af:=ze (Zd (uh d) (uh a));clear C I c0 c1 c2 c3;go_wp2;go_roundw
     case rel=>exact⟨k+1,by omega,by go_num,by rw[uh F,uh U,yT];exact uh af,uh Z⟩
     case measure=>simp[intOf];omega
    | true=>
     have C:=ze (CQ m _ hok o O P W);have U:Hid (QT m=YW m):=by show _=_;unfold QT;rw[hok];rfl
     have ag:Hid ((YW m).length<=2):=by show _<=_;rw[← uh U];exact ER m
     have G:Hid (∀ (B y:Nat) (pv J T:Value) (Q:JV) (wx:Wo),UY wx B m y pv J T Q->Calls prog 48 #[.pointer (some ⟨y,0,none⟩)] wx fun e w'=>∃ r,e= .returned r/\OT w' wx.heap.size r (YW m)/\Bw wx w'):=fun B y pv J T Q wx hx=>zgs m B y pv J T Q wx hx hok O P;clear hok o V O P W;go_wp2_with fail;generalize (wr.alloc (.cells #[.int .i64 m.kind,.string m.path,.string m.src,.string m.val] 59))=wA at *;refine (uh C).mono ?_;rintro e X ⟨y,pv,J,T,Q,rfl,K,I⟩;have HC:=ze (uh G _ y pv J T Q X K);have a:=ze (zi (uh HA) I);clear C K I c0 c1 c2 c3 G;generalize YW m=tp at *;go_wp2_with fail;refine (uh HC).mono ?_;rintro e w3 ⟨rv,rfl,R,b3⟩;have s:=zi (uh a) b3;have n:=ze R;have f:=ze (zi (uh l) s);have q:=ze (Zd (uh d) s);have x:=(uh f).size;have htl:=uh ag;clear HC R b3 s a;go_wp2_with (at_builtin;refine NB rfl (.tmp 23) (.tmp 25) rfl rfl rfl (uh q) (uh n) x (by omega) ?_);intro l4 w4 o4 g4;have Y:=ze ((uh f).grown g4 x (fun b j=>((uh q).lt b j).1));have ad:=ze o4;clear o4 g4 q n f x htl;go_wp2;go_roundw
     case rel=>exact⟨k+1,by omega,by go_num,by rw[uh F,uh U];exact uh ad,uh Y⟩
     case measure=>simp[intOf];omega
   ·have hkn:k=ms.length:=by omega
    subst hkn;rw[List.take_length]at d hal;have HC:=ze (BI _ _ wr (uh d) (by omega));have aa:Hid (qU ms=Lib.compact (WU (QU ms))):=by show _=_;rw[uh HZ];exact (CG _).symm
    clear ho j;go_wp2_with fail;refine (uh HC).mono ?_;rintro e X ⟨rfl,o2,g2⟩;have a:=ze ((uh l).grown g2 hbz (fun b j=>((uh d).lt b j).1));have z:=ze (BJ _ _ X o2 (by rw[FZ];omega));have E:=ze o2;have hz2:=(uh a).size;clear HC o2 g2;go_wp2_with fail;refine (uh z).mono ?_;rintro e w3 ⟨r3,rfl,R,g3⟩;have f:=ze ((uh a).grown g3 hz2 (fun b j=>((uh E).lt b j).1));have n:=ze R;clear z R g3 E;go_wp2;go_ret;exact⟨r3,rfl,by rw[uh aa];exact uh n,uh f⟩
end Go.Proofs.YtpaecnbdoljafaaGreatDoor
