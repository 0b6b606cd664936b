import Derived.Test.YtpaecnbdoljafaaGreatDoorBp11
import Derived.Test.YtpaecnbdoljafaaGreatDoorBp6
set_option maxRecDepth 100000
set_option maxHeartbeats 8000000
namespace Go.Proofs.YtpaecnbdoljafaaGreatDoor
open Go.RowKit Go.Proofs.Tryz
def Z1(s:Bs):Bool:=match Zo s with
 | .inl _=>false
 | .inr v=>(zi (ct v)).toList ==s.toList
theorem Kk{s:Bs}:Z1 s=true↔∃ v,Zo s= .inr v/\zi (ct v)=s:=by
 unfold Z1
 cases h:Zo s with
 | inl c=>simp
 | inr v=>
  simp only[yB];constructor
  ·intro e;refine⟨v,rfl,?_⟩;rw[ByteArray.toList_eq,ByteArray.toList_eq]at e;have:(zi (ct v)).data=s.data:=Array.toList_inj.1 e;exact congrArg ByteArray.mk this
  ·rintro⟨d,a,b⟩;injection a with a;subst a;rw[b]
theorem Th{s:Bs}{c:Nat}(h:Zo s= .inl c):c≠0:=by
 unfold Zo at h
 repeat' split at h
 all_goals first
  |(injection h with h;omega)
  | cases h
theorem N8(s:Bs)(w:Wo)(hs:s.size<=1048576):
  Calls prog 58 #[.string s] w fun e w'=>e= .returned (.bool (Z1 s))/\Bw w w':=by
 have HC:=zh (Nd s w hs)
 cases hr:Zo s with
 | inl c=>
  have f:=Th hr;have b:ZY s= .tuple #[.string ⟨#[]⟩,.int .i64 (c:Int)]:=by unfold ZY;rw[hr]
  have a:Z1 s=false:=by unfold Z1;rw[hr]
  rw[b]at HC;rw[a];have g:((c:Int) ==0)=false:=by simp only[yb,ne_eq];omega
  clear hr f b a;go_in;go_wp2_with fail;refine (uh HC).mono ?_;rintro e h ⟨rfl,d⟩;clear HC;go_wp2;go_ret;exact⟨rfl,d⟩
 | inr v=>
  have b:ZY s= .tuple #[.string (zi (ct v)),.int .i64 0]:=by unfold ZY;rw[hr]
  have a:Z1 s=((zi (ct v)).toList ==s.toList):=by unfold Z1;rw[hr]
  rw[b]at HC;rw[a];clear hr b a;generalize zi (ct v)=u at *;go_in;go_wp2_with fail;refine (uh HC).mono ?_;rintro e h ⟨rfl,d⟩;clear HC;go_wp2;go_ret;exact⟨rfl,d⟩
def zY(k:Int):Bool:=k ==1 || k ==3 || k ==6
def Zh(k:Int):Bool:=k ==4 || k ==5
theorem X7(k:Int)(w:Wo):Calls prog 88 #[.int .i64 k] w fun e w'=>e= .returned (.bool (zY k))/\w=w':=by
 unfold zY;by_cases a:k=1
 ·subst a;go_in;go_wp2;go_ret;exact⟨rfl,rfl⟩
 ·by_cases b:k=3
  ·subst b;go_in;go_wp2;go_ret;exact⟨rfl,rfl⟩
  ·have d:(k ==1)=false:=by simpa using a
   have f:(k ==3)=false:=by simpa using b
   rw[d,f];go_in;go_wp2;go_ret;exact⟨by simp,rfl⟩
theorem Kl(k:Int)(w:Wo):Calls prog 87 #[.int .i64 k] w fun e w'=>e= .returned (.bool (Zh k))/\w=w':=by
 unfold Zh;by_cases a:k=4
 ·subst a;go_in;go_wp2;go_ret;exact⟨rfl,rfl⟩
 ·have b:(k ==4)=false:=by simpa using a
  rw[b];go_in;go_wp2;go_ret;exact⟨by simp,rfl⟩
def Zp(m:zk):Bool:=decide (1<=m.kind) && decide (m.kind<=6) && (zG m.path.data.toList).isSome && (if Zh m.kind then (zG m.src.data.toList).isSome else m.src.toList ==[]) && (if zY m.kind then Z1 m.val else m.val.toList ==[])
theorem N9(m:zk)(w:Wo)(h1:m.path.size<=1048576)(h2:m.src.size<=1048576)(h3:m.val.size<=1048576):
  Calls prog 40 #[.agg #[.int .i64 m.kind,.string m.path,.string m.src,.string m.val]] w fun e w'=>e= .returned (.bool (Zp m))/\Bw w w':=by
 have x:=Zx w (Obj.cells #[.int .i64 m.kind,.string m.path,.string m.src,.string m.val] 59);have O:=yF w (Obj.cells #[.int .i64 m.kind,.string m.path,.string m.src,.string m.val] 59);have j:Hid (∀ wx,Calls prog 86 #[.string m.path] wx (Rb (.bool (zG m.path.data.toList).isSome) wx)):=fun wx=>NT m.path wx h1;have k:Hid (∀ wx,Calls prog 86 #[.string m.src] wx (Rb (.bool (zG m.src.data.toList).isSome) wx)):=fun wx=>NT m.src wx h2;have i:Hid (∀ wx,Calls prog 58 #[.string m.val] wx (Rb (.bool (Z1 m.val)) wx)):=fun wx=>N8 m.val wx h3;have f:Hid (∀ wx,Calls prog 87 #[.int .i64 m.kind] wx (Rk (.bool (Zh m.kind)) wx)):=fun wx=>Kl m.kind wx;have g:Hid (∀ wx,Calls prog 88 #[.int .i64 m.kind] wx (Rk (.bool (zY m.kind)) wx)):=fun wx=>X7 m.kind wx;by_cases Y:m.kind<1
 ·have l:Zp m=false:=by unfold Zp;rw[yj (by omega)];simp
  rw[l];go_in;go_wp2;go_ret;exact⟨rfl,x⟩
 ·by_cases Z:6<m.kind
  ·have l:Zp m=false:=by unfold Zp;rw[yj (p:=m.kind<=6) (by omega)];simp
   rw[l];go_in;go_wp2;go_ret;exact⟨rfl,x⟩
  ·have M:Zp m=((zG m.path.data.toList).isSome && (if Zh m.kind then (zG m.src.data.toList).isSome else m.src.toList ==[]) && (if zY m.kind then Z1 m.val else m.val.toList ==[])):=by
    unfold Zp;rw[yi (by omega),yi (by omega)];simp
   rw[M];clear M;have r:(m.src.toList ==[])=decide (m.src.toList=[]):=by by_cases h:m.src.toList=[]<;>simp[h]
   have s:(m.val.toList ==[])=decide (m.val.toList=[]):=by by_cases h:m.val.toList=[]<;>simp[h]
   rw[r,s];clear r s;generalize (zG m.path.data.toList).isSome=R at *;generalize (zG m.src.data.toList).isSome=S at *;generalize Z1 m.val=zg at *;generalize Zh m.kind=Q at *;generalize zY m.kind=z at *;have d:Hid (∀ wx,Below (w.alloc (Obj.cells #[.int .i64 m.kind,.string m.path,.string m.src,.string m.val] 59)).heap.size (w.alloc (Obj.cells #[.int .i64 m.kind,.string m.path,.string m.src,.string m.val] 59)) wx->wx.cell? ⟨w.heap.size,0,none⟩=some (.int .i64 m.kind)/\wx.cell? ⟨w.heap.size,1,none⟩=some (.string m.path)/\wx.cell? ⟨w.heap.size,2,none⟩=some (.string m.src)/\wx.cell? ⟨w.heap.size,3,none⟩=some (.string m.val)):=fun wx hb=>by
    have y:=(hb.block w.heap.size (by simp)).trans O;exact⟨yE y 0,yE y 1,yE y 2,yE y 3⟩
   have A:=zh x;clear x O h1 h2 h3;go_in;go_wp2_with fail;refine (uh j _).mono ?_;rintro e V ⟨rfl,v⟩;obtain⟨c0,c1,c2,c3⟩:=uh d V v;have b:=zh (zj (uh A) v);have u:=zh v;clear v;by_cases D:R=true
   ·subst D;by_cases l:Q=true
    ·subst l;go_wp2_with fail;refine (uh f _).mono ?_;rintro e P ⟨rfl,rfl⟩;go_wp2_with fail;refine (uh k _).mono ?_;rintro e W ⟨rfl,B⟩;obtain⟨I,J,K,L⟩:=uh d W (zj (uh u) B);have b:=zh (zj (uh b) B);clear B u c0 c1 c2 c3 d;by_cases F:S=true
     ·subst F;go_wp2_with fail;refine (uh f _).mono ?_;rintro e w4 ⟨rfl,rfl⟩;have c0:=I;have c1:=J;have c2:=K;have c3:=L;clear I J K L;by_cases n:z=true
      ·subst n;go_wp2_with fail;refine (uh g _).mono ?_;rintro e H ⟨rfl,rfl⟩;go_wp2_with fail;refine (uh i _).mono ?_;rintro e X ⟨rfl,q⟩;have a:=zh (zj (uh b) q);clear q b c0 c1 c2 c3 j k i f g;go_wp2;go_ret;exact⟨by simp,uh a⟩
      ·have o:z=false:=by simpa using n
       subst o;go_wp2_with fail;refine (uh g _).mono ?_;rintro e H ⟨rfl,rfl⟩;have a:=b;clear b j k i f g n;go_wp2;go_ret;exact⟨by cases m.val.toList<;>simp,uh a⟩
     ·have G:S=false:=by simpa using F
      subst G;clear F;go_wp2;go_ret;exact⟨by simp,uh b⟩
    ·have C:Q=false:=by simpa using l
     subst C;go_wp2_with fail;refine (uh f _).mono ?_;rintro e P ⟨rfl,rfl⟩;go_wp2_with fail;refine (uh f _).mono ?_;rintro e P ⟨rfl,rfl⟩;clear u d l;by_cases N:m.src.toList=[]
     ·by_cases n:z=true
      ·subst n;go_wp2_with fail;refine (uh g _).mono ?_;rintro e H ⟨rfl,rfl⟩;go_wp2_with fail;refine (uh i _).mono ?_;rintro e X ⟨rfl,q⟩;have a:=zh (zj (uh b) q);clear q b c0 c1 c2 c3 j k i f g;go_wp2;go_ret;exact⟨by simp,uh a⟩
      ·have o:z=false:=by simpa using n
       subst o;go_wp2_with fail;refine (uh g _).mono ?_;rintro e H ⟨rfl,rfl⟩;have a:=b;clear b j k i f g n;go_wp2;go_ret;exact⟨by cases m.val.toList<;>simp,uh a⟩
     ·have T:m.src.toList.isEmpty=false:=by simpa using N
      have U:(m.src.toList ==[])=false:=by simpa using N
      clear j k i f g;go_wp2;go_ret;exact⟨by simp,uh b⟩
   ·have E:R=false:=by simpa using D
    subst E;clear D j k i f g d u c0 c1 c2 c3;go_wp2
    all_goals go_ret
    all_goals exact⟨by simp,uh b⟩
def qw(ms:List zk):Int:=if 100<ms.length then 100 else match ms.findIdx? (fun m=>!Zp m)with
 | some i=>(i:Int)
 | none=>-1
def X8(ms:List zk):Prop:=∀ m∈ms,m.path.size<=1048576/\m.src.size<=1048576/\m.val.size<=1048576
theorem Pa{ms:List zk}(h:YV ms<=1048576):X8 ms:=fun m hm=>by
 obtain⟨k,b,rfl⟩:=List.mem_iff_getElem.1 hm;have d:=MK Yd ms k ms[k] (yw b);have a:=MJ (ms.map Yd) (k+1);rw[← List.map_take]at a;unfold YV at h;have f:Yd ms[k]=ms[k].path.size+ms[k].src.size+ms[k].val.size:=rfl;omega
def Wd(ms:List zk):Prop:=X8 ms/\ms.length<=1048576
theorem Ti{ms:List zk}(h:YV ms<=1048576):Wd ms:=⟨Pa h,by unfold YV at h;omega⟩
theorem Pb{ms:List zk}(hl:ms.length<=100){k:Nat}(hk:k<ms.length)(hb:Zp ms[k]=false)(hg:∀ j (h:j<ms.length),j<k->Zp ms[j]=true):qw ms=(k:Int):=by
 unfold qw;rw[ye (by omega)];have:ms.findIdx? (fun m=>!Zp m)=some k:=by
  rw[List.findIdx?_eq_some_iff_getElem];exact⟨hk,by simp[hb],fun j hj=>by simp[hg j (by omega) hj]⟩
 rw[this]
theorem Pc{ms:List zk}(hl:ms.length<=100)(hg:∀ j (h:j<ms.length),Zp ms[j]=true):qw ms= -1:=by
 unfold qw;rw[ye (by omega)];have:ms.findIdx? (fun m=>!Zp m)=none:=by
  rw[List.findIdx?_eq_none_iff];intro x hx;obtain⟨j,a,rfl⟩:=List.mem_iff_getElem.1 hx;simp[hg j a]
 rw[this]
theorem Tj(v:Value)(ms:List zk)(bl:List Nat)(w:Wo)(h:Zn V9 w v ms bl)(hs:X8 ms):
  Calls prog 51 #[v] w fun e w'=>e= .returned (.int .i64 (qw ms))/\Bw w w':=by
 obtain⟨L,M,rfl,E,n⟩:=h.form;have H:=zh h;have r:=zh n;have D:=zh hs;have u:=h.len;unfold maxLen at u;clear h E n hs;by_cases C:ms.length<=100
 ·have s:¬ (100:Int)<(ms.length:Int):=by omega
  go_in;go_wp2;go_loopw [3] (fun i wr=>∃ k:Nat,k<=ms.length/\i= .int .i64 k/\(∀ j (h:j<ms.length),j<k->Zp ms[j]=true)/\Bw w wr) (fun i _=>ms.length - (intOf i).toNat)
  case atStart=>exact⟨0,yr _,rfl,fun j _ hj=>by omega,yG _ _⟩
  case round=>
   obtain⟨k,G,rfl,B,d⟩:=hrel;have p:=zh B;have o:=zh d;clear B d;by_cases l:k<ms.length
   ·have m:(k:Int)<(ms.length:Int):=by omega
    obtain⟨g,rfl⟩:=uh r (by omega);obtain⟨J,I,F,f,_⟩:=((uh H).below (uh o)).at (yw l);obtain⟨rfl,_⟩:=F;have c0:wr.cell? ⟨g,k*4,none⟩=some (.int .i64 ms[k].kind):=(f 0 _ rfl).1;have c1:wr.cell? ⟨g,k*4+1,none⟩=some (.string ms[k].path):=(f 1 _ rfl).1;have c2:wr.cell? ⟨g,k*4+2,none⟩=some (.string ms[k].src):=(f 2 _ rfl).1;have c3:wr.cell? ⟨g,k*4+3,none⟩=some (.string ms[k].val):=(f 3 _ rfl).1;have a:=uh D ms[k] (yq _);have q:=zh (N9 ms[k] wr a.1 a.2.1 a.2.2);obtain⟨z,x⟩:∃ z,Zp ms[k]=z:=⟨_,rfl⟩;rw[x]at q;have y:=zh x;clear f a x;go_wp2_with fail;refine (uh q).mono ?_;rintro e K ⟨rfl,A⟩;have b:=zh (zj (uh o) A);clear q A o c0 c1 c2 c3
    cases z
    ·go_wp2;go_ret;exact⟨by rw[Pb C l (uh y) (uh p)];rfl,uh b⟩
    ·go_wp2;go_roundw
     case rel=>
      refine⟨k+1,by omega,by go_num,fun j hj hjk=>?_,uh b⟩;by_cases e:j=k
      ·subst e;exact uh y
      ·exact uh p j hj (by omega)
     case measure=>simp[intOf];omega
   ·have m:¬ (k:Int)<(ms.length:Int):=by omega
    go_wp2;go_ret;exact⟨by rw[Pc C fun j hj=>uh p j hj (by omega)];rfl,uh o⟩
 ·have s:(100:Int)<(ms.length:Int):=by omega
  have d:qw ms=100:=by unfold qw;rw[yf (by omega)]
  rw[d];clear d;go_in;go_wp2;go_ret;exact⟨rfl,yG _ _⟩
theorem Pd(b:Bs):zi b.data.toList=b:=by obtain⟨⟨l⟩⟩:=b;rfl
def Zk(k:Int):List UInt8:=if k=1 then [97,100,100]else if k=2 then [114,101,109,111,118,101]else if k=3 then [114,101,112,108,97,99,101]else if k=4 then [109,111,118,101]else if k=5 then [99,111,112,121]else [116,101,115,116]
theorem Km(k:Int):(Zk k).length<=7:=by
 unfold Zk
 repeat' split
 all_goals simp
theorem Tk(k:Int)(w:Wo):Calls prog 105 #[.int .i64 k] w fun e w'=>e= .returned (.string (zi (Zk k)))/\w=w':=by
 unfold Zk;by_cases a:k=1
 ·subst a;go_in;go_wp2;go_ret;exact⟨rfl,rfl⟩
 ·by_cases b:k=2
  ·subst b;go_in;go_wp2;go_ret;exact⟨rfl,rfl⟩
  ·by_cases d:k=3
   ·subst d;go_in;go_wp2;go_ret;exact⟨rfl,rfl⟩
   ·by_cases f:k=4
    ·subst f;go_in;go_wp2;go_ret;exact⟨rfl,rfl⟩
    ·by_cases g:k=5
     ·subst g;go_in;go_wp2;go_ret;exact⟨rfl,rfl⟩
     ·rw[ye a,ye b,ye d,ye f,ye g];have h:(k ==1)=false:=by simpa using a
      have i:(k ==2)=false:=by simpa using b
      have j:(k ==3)=false:=by simpa using d
      have l:(k ==4)=false:=by simpa using f
      have m:(k ==5)=false:=by simpa using g
      go_in;go_wp2;go_ret;exact⟨rfl,rfl⟩
def qn(m:zk):List zx:=[([111,112],quoted (Zk m.kind)),([112,97,116,104],quoted m.path.data.toList)]++(if Zh m.kind then [([102,114,111,109],quoted m.src.data.toList)]else [])++(if zY m.kind then [([118,97,108,117,101],m.val.data.toList)]else [])
def qd(m:zk):List UInt8:=ZD (zz (qn m))
theorem Kn(m:zk)(h1:m.path.size<=1048576)(h2:m.src.size<=1048576)(h3:m.val.size<=1048576):(qn m).length<=4/\sumT (zz (qn m))<=40000000/\(zz (qn m)).length<=4/\∀ p∈zz (qn m),p.1.length<=1048576:=by
 have b:(qn m).length<=4:=by
  unfold qn
  cases Zh m.kind<;>cases zY m.kind<;>simp
 have d:=qj (qn m);have n:=qQ (Zk m.kind);have f:=qQ m.path.data.toList;have g:=qQ m.src.data.toList;rw[Zb]at f g;have o:=Km m.kind;have i:=qQ [111,112];have j:=qQ [112,97,116,104];have k:=qQ [102,114,111,109];have l:=qQ [118,97,108,117,101];have h:m.val.data.toList.length<=1048576:=by rw[Zb];exact h3
 refine⟨b,?_,by rw[d.length_eq];exact b,fun p hm=>?_⟩
 ·rw[Wz];unfold qn
  cases Zh m.kind<;>cases zY m.kind<;>simp[sumT,zt]at *<;>omega
 ·have a:=d.subset hm;unfold qn at a;simp at a;rcases a with rfl | rfl |⟨_,rfl⟩ |⟨_,rfl⟩<;>simp
theorem Tl(m:zk)(w:Wo)(h1:m.path.size<=1048576)(h2:m.src.size<=1048576)(h3:m.val.size<=1048576):
  Calls prog 56 #[.agg #[.int .i64 m.kind,.string m.path,.string m.src,.string m.val]] w fun e w'=>e= .returned (.string (zi (qd m)))/\Bw w w':=by
 have hA:=Zx w (Obj.cells #[.int .i64 m.kind,.string m.path,.string m.src,.string m.val] 59);have kA:=yF w (Obj.cells #[.int .i64 m.kind,.string m.path,.string m.src,.string m.val] 59);have HQP:Hid (∀ wx,Calls prog 70 #[.string m.path] wx (Rb (.string (zi (quoted m.path.data.toList))) wx)):=fun wx=>WM m.path wx h1;have HQS:Hid (∀ wx,Calls prog 70 #[.string m.src] wx (Rb (.string (zi (quoted m.src.data.toList))) wx)):=fun wx=>WM m.src wx h2;have HQW:Hid (∀ wx,Calls prog 70 #[.string (zi (Zk m.kind))] wx (Rb (.string (zi (quoted (Zk m.kind)))) wx)):=fun wx=>by
  have:=WM (zi (Zk m.kind)) wx (by rw[zS];have:=Km m.kind;omega)
  rwa [Zd]at this
 have HW:Hid (∀ wx,Calls prog 105 #[.int .i64 m.kind] wx (Rk (.string (zi (Zk m.kind))) wx)):=fun wx=>Tk m.kind wx;have HF:Hid (∀ wx,Calls prog 87 #[.int .i64 m.kind] wx (Rk (.bool (Zh m.kind)) wx)):=fun wx=>Kl m.kind wx;have HV:Hid (∀ wx,Calls prog 88 #[.int .i64 m.kind] wx (Rk (.bool (zY m.kind)) wx)):=fun wx=>X7 m.kind wx;have A:Hid (∀ wx,Below (w.alloc (Obj.cells #[.int .i64 m.kind,.string m.path,.string m.src,.string m.val] 59)).heap.size (w.alloc (Obj.cells #[.int .i64 m.kind,.string m.path,.string m.src,.string m.val] 59)) wx->wx.cell? ⟨w.heap.size,0,none⟩=some (.int .i64 m.kind)/\wx.cell? ⟨w.heap.size,1,none⟩=some (.string m.path)/\wx.cell? ⟨w.heap.size,2,none⟩=some (.string m.src)/\wx.cell? ⟨w.heap.size,3,none⟩=some (.string m.val)):=fun wx hb=>by
  have kx:=(hb.block w.heap.size (by simp)).trans kA;exact⟨yE kx 0,yE kx 1,yE kx 2,yE kx 3⟩
 have H:=zh hA;obtain⟨zf,U⟩:∃ zf,Zh m.kind=zf:=⟨_,rfl⟩;obtain⟨zv,V⟩:∃ zv,zY m.kind=zv:=⟨_,rfl⟩;rw[U]at HF;rw[V]at HV;have I:=zh U;have J:=zh V;clear hA kA U V;obtain⟨i0,Q,R,S,T⟩:=info_parts Y9;go_in;go_wp2_with fail;obtain⟨M,hwA⟩:∃ M,w.alloc (Obj.cells #[.int .i64 m.kind,.string m.path,.string m.src,.string m.val] 59)=M:=⟨_,rfl⟩;rw[hwA]at A H ⊢;clear hwA;obtain⟨c0,c1,_,_⟩:=uh A M.drew (yG _ _).drew;have c0w:M.cell? ⟨w.heap.size,0,none⟩=some (.int .i64 m.kind):=c0;have c1w:M.cell? ⟨w.heap.size,1,none⟩=some (.string m.path):=c1;go_region_law (first
  |(go_simp;refine (uh HW _).mono ?_;rintro e w1 ⟨rfl,rfl⟩;have mk1:=trivial)
  |(
    have:=mk1;go_simp;refine (uh HQW _).mono ?_;rintro e w2 ⟨rfl,b2⟩;have B2:Bw M w2:=((yG _ _).drew).trans b2;obtain⟨d0,d1,d2,d3⟩:=uh A w2 B2;have mk2:=trivial;clear mk1)
  |(
    have:=mk2;go_simp;refine (uh HQP _).mono ?_;rintro e L ⟨rfl,b3⟩;have B3:=zj B2 b3))
 all_goals (
  have hw3:w.heap.size<=L.heap.size:=yO (uh H).size B3.size;have hGA:M.heap.size<=L.heap.size:=B3.size;have p:Hid (PR (L.alloc (.cells #[.string ⟨#[111,112]⟩,.string (zi (quoted (Zk m.kind))),.string ⟨#[112,97,116,104]⟩,.string (zi (quoted m.path.data.toList))] 97)) w.heap.size (.slice (some ⟨L.heap.size,0,none⟩) 2 2) [([111,112],quoted (Zk m.kind)),([112,97,116,104],quoted m.path.data.toList)]):=
   World.ownsRow_lit L #[.string ⟨#[111,112]⟩,.string (zi (quoted (Zk m.kind))),.string ⟨#[112,97,116,104]⟩,.string (zi (quoted m.path.data.toList))] 2 hw3 (by unfold maxLen;omega) rfl
  have B4:=zj B3 (Zx L (.cells #[.string ⟨#[111,112]⟩,.string (zi (quoted (Zk m.kind))),.string ⟨#[112,97,116,104]⟩,.string (zi (quoted m.path.data.toList))] 97));obtain⟨e0,e1,e2,e3⟩:=uh A _ B4;have N:=zh B4;clear B4 B3 B2 b2 b3 c0 c1 c0w c1w mk2;go_wp2_with fail;generalize (L.alloc (.cells #[.string ⟨#[111,112]⟩,.string (zi (quoted (Zk m.kind))),.string ⟨#[112,97,116,104]⟩,.string (zi (quoted m.path.data.toList))] 97))=X at *;generalize L.heap.size=G at *;refine (uh HF _).mono ?_;rintro e Y ⟨rfl,rfl⟩;have hw4:w.heap.size<=X.heap.size:=yO (uh H).size (uh N).size;have P:=zh (zj (uh H) (uh N))
  cases zf
  ·go_wp2_with fail;refine (uh HV _).mono ?_;rintro e w5' ⟨rfl,rfl⟩
   cases zv
   ·have d:qn m=[([111,112],quoted (Zk m.kind)),([112,97,116,104],quoted m.path.data.toList)]:=by unfold qn;rw[uh I,uh J];rfl
    have f:=Kn m h1 h2 h3;rw[d]at f;have s:=zh d;have l:=zh (WC w.heap.size _ [([111,112],quoted (Zk m.kind)),([112,97,116,104],quoted m.path.data.toList)] _ (uh p) (by simp));have b:=zh f;clear f d;go_wp2_with fail;refine (uh l).mono ?_;rintro e Z ⟨W,rfl,D,B⟩;have i:=zh (VN _ W _ Z D (uh b).2.1 (by have:=(uh b).2.2.1;omega) (uh b).2.2.2);have q:=zh (zj (uh P) B);clear l D B;go_wp2_with fail;refine (uh i).mono ?_;rintro e w9 ⟨rfl,C⟩;have r:=zh (zj (uh q) C);clear i C;go_wp2;go_ret;exact⟨by rw[qd,uh s];rfl,uh r⟩
   ·have e3':X.cell? ⟨w.heap.size,3,none⟩=some (.string (zi m.val.data.toList)):=by rw[Pd];exact e3
    have HL:Hid (∀ (j:Nat) (u:Value),(zF ([118,97,108,117,101],m.val.data.toList))[j]?=some u->(X.alloc (.cells #[.string ⟨#[118,97,108,117,101]⟩,.string (zi m.val.data.toList)] 97)).cell? ((⟨X.heap.size,0,none⟩:Addr).add j)=some u):=fun j u h=>QE X 97 _ _ j u h;have v:Hid (∀ u∈zF ([118,97,108,117,101],m.val.data.toList),u.oneCell'=true):=fun u hu=>by
     simp[zF]at hu;rcases hu with rfl | rfl<;>rfl
    have x:Hid (World.ownsRow (X.alloc (.cells #[.string ⟨#[118,97,108,117,101]⟩,.string (zi m.val.data.toList)] 97)) w.heap.size 97 2 (.slice (some ⟨G,0,none⟩) 2 2) 2 ([([111,112],quoted (Zk m.kind)),([112,97,116,104],quoted m.path.data.toList)].flatMap zF)):=World.ownsRow.alloc (uh p) _;clear e3;go_wp2_with (at_builtin;refine wpList_append_own _ rfl (.tmp 27) (.tmp 31) 94 rfl w.heap.size 97 i0 (.agg #[.string ByteArray.empty,.string ByteArray.empty]) 2 32 underlying94 Q R S T rfl (by decide) _ _ _ rfl (uh x) ⟨X.heap.size,0,none⟩ 1 1 (zF ([118,97,108,117,101],m.val.data.toList)) rfl rfl (by exact uh HL) (by exact uh v) (by unfold maxLen;omega) (by omega) (by simp;omega) ?_);intro v6 F n y _;have o:Hid (PR F w.heap.size v6 ([([111,112],quoted (Zk m.kind)),([112,97,116,104],quoted m.path.data.toList)]++[([118,97,108,117,101],m.val.data.toList)])):=n;have z:=zh (((uh P).alloc hw4 _).grown y (by simp;omega) (fun k hk=>(World.ownsRow.lt (uh p) k hk).1));clear n y;have d:qn m=[([111,112],quoted (Zk m.kind)),([112,97,116,104],quoted m.path.data.toList)]++[([118,97,108,117,101],m.val.data.toList)]:=by unfold qn;rw[uh I,uh J];rfl
    have f:=Kn m h1 h2 h3;rw[d]at f;have s:=zh d;have l:=zh (WC w.heap.size _ ([([111,112],quoted (Zk m.kind)),([112,97,116,104],quoted m.path.data.toList)]++[([118,97,108,117,101],m.val.data.toList)]) _ (uh o) (by simp));have b:=zh f;clear f d;go_wp2_with fail;refine (uh l).mono ?_;rintro e Z ⟨W,rfl,D,B⟩;have i:=zh (VN _ W _ Z D (uh b).2.1 (by have:=(uh b).2.2.1;omega) (uh b).2.2.2);have q:=zh (zj (uh z) B);clear l D B;go_wp2_with fail;refine (uh i).mono ?_;rintro e w9 ⟨rfl,C⟩;have r:=zh (zj (uh q) C);clear i C;go_wp2;go_ret;exact⟨by rw[qd,uh s];rfl,uh r⟩
  ·go_wp2_with fail;refine (uh HQS _).mono ?_;rintro e Y ⟨rfl,b5⟩;have hw5:w.heap.size<=Y.heap.size:=yO hw4 b5.size;have O:=zh (zj (uh N) b5);have HB5:=zh (zj (uh P) b5);have E:=zh ((uh p).below b5);have HL:Hid (∀ (j:Nat) (u:Value),(zF ([102,114,111,109],quoted m.src.data.toList))[j]?=some u->(Y.alloc (.cells #[.string ⟨#[102,114,111,109]⟩,.string (zi (quoted m.src.data.toList))] 97)).cell? ((⟨Y.heap.size,0,none⟩:Addr).add j)=some u):=fun j u h=>QE Y 97 _ _ j u h;have v:Hid (∀ u∈zF ([102,114,111,109],quoted m.src.data.toList),u.oneCell'=true):=fun u hu=>by
    simp[zF]at hu;rcases hu with rfl | rfl<;>rfl
   have x:Hid (World.ownsRow (Y.alloc (.cells #[.string ⟨#[102,114,111,109]⟩,.string (zi (quoted m.src.data.toList))] 97)) w.heap.size 97 2 (.slice (some ⟨G,0,none⟩) 2 2) 2 ([([111,112],quoted (Zk m.kind)),([112,97,116,104],quoted m.path.data.toList)].flatMap zF)):=World.ownsRow.alloc (uh E) _;clear b5 e0 e1 e2 e3;go_wp2_with (at_builtin;refine wpList_append_own _ rfl (.tmp 17) (.tmp 22) 94 rfl w.heap.size 97 i0 (.agg #[.string ByteArray.empty,.string ByteArray.empty]) 2 32 underlying94 Q R S T rfl (by decide) _ _ _ rfl (uh x) ⟨Y.heap.size,0,none⟩ 1 1 (zF ([102,114,111,109],quoted m.src.data.toList)) rfl rfl (by exact uh HL) (by exact uh v) (by unfold maxLen;omega) (by omega) (by simp;omega) ?_);intro v6 F n y _;obtain⟨va,vc,rfl⟩:∃ a c,v6= .slice a 3 c:=by
    rcases n.2 with ⟨hv,h0⟩ |⟨g,cap,cur,hv,_⟩
    ·exact absurd h0 (by decide)
    ·exact⟨_,_,hv⟩
   have o:Hid (PR F w.heap.size (.slice va 3 vc) ([([111,112],quoted (Zk m.kind)),([112,97,116,104],quoted m.path.data.toList)]++[([102,114,111,109],quoted m.src.data.toList)])):=n;have z:=zh (((uh HB5).alloc hw5 _).grown y (by simp;omega) (fun k hk=>(World.ownsRow.lt (uh E) k hk).1));have hw6:w.heap.size<=F.heap.size:=(uh z).size;have BC6:=((uh O).alloc (uh O).size _).grown y (by have:=(uh O).size;simp;omega) (fun k hk=>by simp[Value.ownBlock]at hk;omega);obtain⟨d0,d1,d2,d3⟩:=uh A F BC6;clear n y BC6 HL v x E p;go_wp2_with fail;refine (uh HV _).mono ?_;rintro e w6' ⟨rfl,rfl⟩
   cases zv
   ·have d:qn m=[([111,112],quoted (Zk m.kind)),([112,97,116,104],quoted m.path.data.toList)]++[([102,114,111,109],quoted m.src.data.toList)]:=by unfold qn;rw[uh I,uh J];rfl
    have f:=Kn m h1 h2 h3;rw[d]at f;have s:=zh d;have l:=zh (WC w.heap.size _ ([([111,112],quoted (Zk m.kind)),([112,97,116,104],quoted m.path.data.toList)]++[([102,114,111,109],quoted m.src.data.toList)]) _ (uh o) (by simp));have b:=zh f;clear f d;go_wp2_with fail;refine (uh l).mono ?_;rintro e Z ⟨W,rfl,D,B⟩;have i:=zh (VN _ W _ Z D (uh b).2.1 (by have:=(uh b).2.2.1;omega) (uh b).2.2.2);have q:=zh (zj (uh z) B);clear l D B;go_wp2_with fail;refine (uh i).mono ?_;rintro e w9 ⟨rfl,C⟩;have r:=zh (zj (uh q) C);clear i C;go_wp2;go_ret;exact⟨by rw[qd,uh s];rfl,uh r⟩
   ·have e3':F.cell? ⟨w.heap.size,3,none⟩=some (.string (zi m.val.data.toList)):=by rw[Pd];exact d3
    have HL:Hid (∀ (j:Nat) (u:Value),(zF ([118,97,108,117,101],m.val.data.toList))[j]?=some u->(F.alloc (.cells #[.string ⟨#[118,97,108,117,101]⟩,.string (zi m.val.data.toList)] 97)).cell? ((⟨F.heap.size,0,none⟩:Addr).add j)=some u):=fun j u h=>QE F 97 _ _ j u h;have v:Hid (∀ u∈zF ([118,97,108,117,101],m.val.data.toList),u.oneCell'=true):=fun u hu=>by
     simp[zF]at hu;rcases hu with rfl | rfl<;>rfl
    have x:Hid (World.ownsRow (F.alloc (.cells #[.string ⟨#[118,97,108,117,101]⟩,.string (zi m.val.data.toList)] 97)) w.heap.size 97 2 (.slice va 3 vc) 3 ((([([111,112],quoted (Zk m.kind)),([112,97,116,104],quoted m.path.data.toList)]++[([102,114,111,109],quoted m.src.data.toList)]:List zx)).flatMap zF)):=World.ownsRow.alloc (uh o) _;clear d3;go_wp2_with (at_builtin;refine wpList_append_own _ rfl (.tmp 27) (.tmp 31) 94 rfl w.heap.size 97 i0 (.agg #[.string ByteArray.empty,.string ByteArray.empty]) 2 32 underlying94 Q R S T rfl (by decide) _ _ _ rfl (uh x) ⟨F.heap.size,0,none⟩ 1 1 (zF ([118,97,108,117,101],m.val.data.toList)) rfl rfl (by exact uh HL) (by exact uh v) (by unfold maxLen;omega) (by omega) (by simp;omega) ?_);intro v7 w7 K hg7 _;have OWN7:Hid (PR w7 w.heap.size v7 ([([111,112],quoted (Zk m.kind)),([112,97,116,104],quoted m.path.data.toList)]++[([102,114,111,109],quoted m.src.data.toList)]++[([118,97,108,117,101],m.val.data.toList)])):=K;have HB7:=zh (((uh z).alloc hw6 _).grown hg7 (by simp;omega) (fun k hk=>(World.ownsRow.lt (uh o) k hk).1));clear K hg7;have d:qn m=[([111,112],quoted (Zk m.kind)),([112,97,116,104],quoted m.path.data.toList)]++[([102,114,111,109],quoted m.src.data.toList)]++[([118,97,108,117,101],m.val.data.toList)]:=by unfold qn;rw[uh I,uh J];rfl
    have f:=Kn m h1 h2 h3;rw[d]at f;have s:=zh d;have l:=zh (WC w.heap.size _ ([([111,112],quoted (Zk m.kind)),([112,97,116,104],quoted m.path.data.toList)]++[([102,114,111,109],quoted m.src.data.toList)]++[([118,97,108,117,101],m.val.data.toList)]) _ (uh OWN7) (by simp));have b:=zh f;clear f d;go_wp2_with fail;refine (uh l).mono ?_;rintro e Z ⟨W,rfl,D,B⟩;have i:=zh (VN _ W _ Z D (uh b).2.1 (by have:=(uh b).2.2.1;omega) (uh b).2.2.2);have q:=zh (zj (uh HB7) B);clear l D B;go_wp2_with fail;refine (uh i).mono ?_;rintro e w9 ⟨rfl,C⟩;have r:=zh (zj (uh q) C);clear i C;go_wp2;go_ret;exact⟨by rw[qd,uh s];rfl,uh r⟩)
theorem Tm(s:Bs)(w:Wo)(h0:20000<s.size)(hz:s.size<=400000000):
  Calls prog 7 #[.string s] w fun e w'=>e= .returned (.tuple #[.string ⟨#[]⟩,.int .i64 1])/\Bw w w':=by
 have a:(20000:Int)<(s.size:Int):=by omega
 go_in;go_wp2;go_ret2;exact⟨rfl,yG _ _⟩
theorem Tn(s:Bs)(w:Wo)(hz:s.size<=400000000):
  Calls prog 58 #[.string s] w fun e w'=>e= .returned (.bool (Z1 s))/\Bw w w':=by
 by_cases a:20000<s.size
 ·have HC:=zh (Tm s w a hz);have b:Z1 s=false:=by unfold Z1 Zo;rw[yf a]
  rw[b];clear b a;go_in;go_wp2_with fail;refine (uh HC).mono ?_;rintro e f ⟨rfl,d⟩;clear HC;go_wp2;go_ret;exact⟨rfl,d⟩
 ·exact N8 s w (by omega)
theorem X9(m:zk):(qd m).length<=6*Yd m+200:=by
 have h:=RW (qn m);have l:=qQ (Zk m.kind);have a:=qQ m.path.data.toList;have b:=qQ m.src.data.toList;rw[Zb]at a b;have n:=Km m.kind;have g:=qQ [111,112];have i:=qQ [112,97,116,104];have j:=qQ [102,114,111,109];have k:=qQ [118,97,108,117,101];have f:m.val.data.toList.length=m.val.size:=Zb _;have d:sumT (qn m)<=6*Yd m+198:=by
  unfold qn Yd
  cases Zh m.kind<;>cases zY m.kind<;>simp[sumT,zt]at *<;>omega
 unfold qd;omega
def Qq(ms:List zk):List zx:=ms.map fun m=>([],qd m)
theorem To(ms:List zk):sumA (Qq ms)<=6*(ms.map Yd).sum+201*ms.length:=by
 induction ms with
 | nil=>simp[Qq,sumA]
 | cons m r ih=>
  have:=X9 m;unfold Qq sumA at *;simp at *;omega
def Q0(ms:List zk):Bs×Bool:=if 0<=qw ms then (⟨#[]⟩,false)else if Z1 (zi (Zi (ms.map qd)))then (zi (Zi (ms.map qd)),true)else (⟨#[]⟩,false)
theorem Tp(v:Value)(ms:List zk)(bl:List Nat)(w:Wo)(h:Zn V9 w v ms bl)(hb:Wd ms)(hs:YV ms<=4000000):
  Calls prog 19 #[v] w fun e w'=>e= .returned (.tuple #[.string (Q0 ms).1,.bool (Q0 ms).2])/\Bw w w':=by
 have HIN:=zh hb.1;have x:=zh (Tj v ms bl w h hb.1);have hmz:=hb.2;obtain⟨xa,xc,rfl,h1,X⟩:=h.form;have H:=zh h;have HXA:=zh X;have hsum:(ms.map Yd).sum+ms.length<=4000000:=by unfold YV at hs;omega
 clear h h1 X hs hb;obtain⟨ev,B⟩:∃ ev,Q0 ms=ev:=⟨_,rfl⟩;rw[B];have o:=zh B;clear B;obtain⟨bi,z⟩:∃ bi,qw ms=bi:=⟨_,rfl⟩;rw[z]at x;have n:=zh z;clear z;go_in;go_wp2_with fail;refine (uh x).mono ?_;rintro e w1 ⟨rfl,b1⟩;have l:=zh b1;clear x b1;by_cases hb:0<=bi
 ·have hV:Q0 ms=(⟨#[]⟩,false):=by unfold Q0;rw[uh n,yf hb]
  obtain rfl:ev=(⟨#[]⟩,false):=(uh o).symm.trans hV;clear hV o;go_wp2;go_ret2;exact⟨rfl,uh l⟩
 ·have hw1:=(uh l).size;have r:Hid (PR (w1.alloc (.cells #[] 97)) w.heap.size (.slice (some ⟨w1.heap.size,0,none⟩) 0 0) []):=World.ownsRow_lit w1 #[] 0 hw1 (by unfold maxLen;omega) rfl;have K:=zh (zj (uh l) (Zx w1 (.cells #[] 97)));obtain⟨i0,hi0,hz0,hz1,hz2⟩:=info_parts Y9;clear l;go_wp2_with fail;go_loopw [4,5] (fun v i wr=>∃ (k:Nat) (Y:Option Addr) (Z:Nat),v= .slice Y k Z/\i= .int .i64 k/\k<=ms.length/\PR wr w.heap.size (.slice Y k Z) (Qq (ms.take k))/\Bw w wr) (fun _ i _=>ms.length - (intOf i).toNat)
  case atStart=>exact⟨0,_,_,rfl,rfl,yr _,uh r,uh K⟩
  case round=>
   obtain⟨k,Y,Z,rfl,rfl,hk,q,A⟩:=hrel;have HO:=zh q;have J:=zh A;have hws:=A.size;clear q A r K;by_cases S:k<ms.length
   ·have T:(k:Int)<(ms.length:Int):=by omega
    obtain⟨g,rfl⟩:=uh HXA (by omega);obtain⟨vs,ib,hE,P,_⟩:=((uh H).below (uh J)).at (yw S);obtain⟨rfl,_⟩:=hE;have c0:wr.cell? ⟨g,k*4,none⟩=some (.int .i64 ms[k].kind):=(P 0 _ rfl).1;have c1:wr.cell? ⟨g,k*4+1,none⟩=some (.string ms[k].path):=(P 1 _ rfl).1;have c2:wr.cell? ⟨g,k*4+2,none⟩=some (.string ms[k].src):=(P 2 _ rfl).1;have c3:wr.cell? ⟨g,k*4+3,none⟩=some (.string ms[k].val):=(P 3 _ rfl).1;have p:=uh HIN ms[k] (yq _);have HE:=zh (Tl ms[k] wr p.1 p.2.1 p.2.2);have V:Qq (ms.take (k+1))=Qq (ms.take k)++[([],qd ms[k])]:=by
     unfold Qq;rw[List.take_add_one,yw S,yv];rfl
    have R:(Qq (ms.take k)).length=k:=by unfold Qq;simp;omega
    have hk9:k<=1048576:=by omega
    generalize qd ms[k]=G at *;generalize Qq (ms.take k)=ps at *;have HNX:=zh V;have L:=zh R;clear P p V R;go_wp2_with fail;refine (uh HE).mono ?_;rintro e s ⟨rfl,y⟩;have hw5:w.heap.size<=s.heap.size:=yO hws y.size;have b:=zh (zj (uh J) y);have d:Hid (PR s w.heap.size (.slice Y k Z) ps):=(uh HO).below y;have HL:Hid (∀ (j:Nat) (u:Value),(zF ([],G))[j]?=some u->(s.alloc (.cells #[.string ⟨#[]⟩,.string (zi G)] 97)).cell? ((⟨s.heap.size,0,none⟩:Addr).add j)=some u):=fun j u h=>QE s 97 _ _ j u h;have M:Hid (∀ u∈zF ([],G),u.oneCell'=true):=fun u hu=>by
     simp[zF]at hu;rcases hu with rfl | rfl<;>rfl
    have N:Hid (World.ownsRow (s.alloc (.cells #[.string ⟨#[]⟩,.string (zi G)] 97)) w.heap.size 97 2 (.slice Y k Z) k (ps.flatMap zF)):=by
     have:=World.ownsRow.alloc (uh d) (.cells #[.string ⟨#[]⟩,.string (zi G)] 97);rw[uh L]at this;exact this
    clear HE J HO y c0 c1 c2 c3;go_wp2_with (at_builtin;refine wpList_append_own _ rfl (.tmp 17) (.tmp 24) 94 rfl w.heap.size 97 i0 (.agg #[.string ByteArray.empty,.string ByteArray.empty]) 2 32 underlying94 hi0 hz0 hz1 hz2 rfl (by decide) _ _ _ rfl (uh N) ⟨s.heap.size,0,none⟩ 1 1 (zF ([],G)) rfl rfl (by exact uh HL) (by exact uh M) (by unfold maxLen;omega) (by omega) (by simp;omega) ?_);intro v6 w6 f Q _;obtain⟨ya,yc,rfl⟩:∃ a c,v6= .slice a (k+1) c:=by
     rcases f.2 with ⟨hv,h0⟩ |⟨g',cap,cur,hv,_⟩
     ·omega
     ·exact⟨_,_,hv⟩
    have O:Hid (PR w6 w.heap.size (.slice ya (k+1) yc) (Qq (ms.take (k+1)))):=by
     show w6.ownsRow w.heap.size 97 2 _ (Qq (ms.take (k+1))).length ((Qq (ms.take (k+1))).flatMap zF)
     rw[uh HNX,List.flatMap_append,yg,uh L];simpa using f
    have m:=zh (((uh b).alloc hw5 _).grown Q (by simp;omega) (fun k hk=>(World.ownsRow.lt (uh d) k hk).1));clear f Q N HL M d b;go_wp2;go_roundw
    case rel=>exact⟨k+1,ya,yc,rfl,by go_num,by omega,uh O,uh m⟩
    case measure=>simp[intOf];omega
   ·have T:¬ (k:Int)<(ms.length:Int):=by omega
    have W:ms.take k=ms:=yp (by omega);have hO:=uh HO;rw[W]at hO;have hsm:=To ms;have hl100:ms.length<=100:=by
     have h9:=uh n;unfold qw at h9;by_cases h8:100<ms.length
     ·rw[yf h8]at h9;omega
     ·omega
    have D:(Qq ms).map (·.2)=ms.map qd:=by unfold Qq;rw[List.map_map];rfl
    have U:=O9 (Qq ms) (Qq ms).length;have HA:=zh (Na w.heap.size _ (Qq ms) wr hO (by omega) (by unfold Qq;simp;omega));rw[D]at HA;have C:(zi (Zi (ms.map qd))).size<=400000000:=by
     rw[zS,← D];rw[List.take_length]at U;simp[Zi]at *;omega
    obtain⟨I,E⟩:∃ I,zi (Zi (ms.map qd))=I:=⟨_,rfl⟩;rw[E]at HA C;obtain⟨zg,F⟩:∃ zg,Z1 I=zg:=⟨_,rfl⟩;have HG:Hid (∀ wx,Calls prog 58 #[.string I] wx (Rb (.bool zg) wx)):=fun wx=>by
     rw[← F];exact Tn I wx C
    have hV:ev=if zg then (I,true)else (⟨#[]⟩,false):=by
     rw[← uh o];unfold Q0;rw[uh n,ye (by omega),E,F]
    clear hO HO W hsm D U E F o n C;subst hV;go_wp2_with fail;refine (uh HA).mono ?_;rintro e s ⟨rfl,y⟩;have b:=zh (zj (uh J) y);clear HA y J;go_wp2_with fail;refine (uh HG _).mono ?_;rintro e w6 ⟨rfl,b6⟩;have m:=zh (zj (uh b) b6);clear HG b6 b
    cases zg
    ·go_wp2;go_ret2;exact⟨rfl,uh m⟩
    ·go_wp2;go_ret2;exact⟨rfl,uh m⟩
def qU:List UInt8:=[111,112]
def ZS:List UInt8:=[112,97,116,104]
def qA:List UInt8:=[102,114,111,109]
def Qj:List UInt8:=[118,97,108,117,101]
def Ye(m:zk)(v:JV):List (List UInt8×JV):=[(qU,.str (Zk m.kind)),(ZS,.str m.path.data.toList)]++(if Zh m.kind then [(qA,.str m.src.data.toList)]else [])++(if zY m.kind then [(Qj,v)]else [])
def Jl(m:zk)(v:JV):JV:=.obj (JM.ofL (Ye m v))
def Vk(m:zk)(v:JV):Prop:=zY m.kind=true->Zo m.val= .inr v/\zi (ct v)=m.val
theorem Pe{v:JV}{s:Bs}(h:zi (ct v)=s):ct v=s.data.toList:=by rw[← h,Zd]
theorem Tq(l:List (List UInt8×JV)):zn (JM.ofL l)=l.map kt:=by
 have e:zn (JM.ofL l)=(JM.ofL l).toL.map kt:=Qg _;rw[e,JM.toL_ofL]
theorem Tr{m:zk}{v:JV}(h:Vk m v):(Ye m v).map kt=qn m:=by
 unfold Ye qn
 cases hv:zY m.kind with
 | false=>cases Zh m.kind<;>simp[kt,ct,qU,ZS,qA]
 | true=>
  have:=Pe (h hv).2
  cases Zh m.kind<;>simp[kt,ct,qU,ZS,qA,Qj,this]
theorem Pf{m:zk}{v:JV}(h:Vk m v):ct (Jl m v)=qd m:=by
 unfold Jl qd;rw[ct,Tq,Tr h]
theorem Ts(k:Int):Lib.validD (Zk k)=true:=by
 unfold Zk
 repeat' split
 all_goals rfl
def qV(m:zk):Bool:=Lib.validD m.path.data.toList && Lib.validD m.src.data.toList
theorem Pg{m:zk}(hsrc:Zh m.kind=false->m.src.toList=[])(h:Lib.validD (qd m)=true):qV m=true:=by
 unfold qd at h;rw[Lr,List.all_eq_true]at h;have b:∀ p∈qn m,(Lib.validD p.1 && Lib.validD p.2)=true:=fun p hp=>h p ((qj _).symm.subset hp);have d:=b ([112,97,116,104],quoted m.path.data.toList) (by unfold qn;simp);rw[Bool.and_eq_true]at d;have a:=d.2;rw[Xr]at a;unfold qV;rw[Bool.and_eq_true];refine⟨a,?_⟩
 cases hf:Zh m.kind with
 | true=>
  have f:=b ([102,114,111,109],quoted m.src.data.toList) (by unfold qn;rw[hf];simp);rw[Bool.and_eq_true]at f;have:=f.2
  rwa [Xr]at this
 | false=>
  have e:=hsrc hf;rw[ByteArray.toList_eq]at e;rw[e];rfl
theorem Ko:Lib.validD qU=true/\Lib.validD ZS=true/\Lib.validD qA=true/\Lib.validD Qj=true:=by
 refine⟨?_,?_,?_,?_⟩
 all_goals decide
theorem Tt{m:zk}{v:JV}(h:Vk m v)(hv:qV m=true):∀ q∈Ye m v,Lib.validD q.1=true/\Zj q.2/\zw q.2=false/\zD q.2=false:=by
 unfold qV at hv;rw[Bool.and_eq_true]at hv;have a:zY m.kind=true->Zj v/\zw v=false/\zD v=false:=fun b=>by
  have k:=(h b).1;obtain⟨_,j,g,i,_,_⟩:=UK k;exact⟨Lk j,g,i⟩
 have f:∀ q∈Ye m v,q=(qU,.str (Zk m.kind))∨q=(ZS,.str m.path.data.toList)∨q=(qA,.str m.src.data.toList)∨(zY m.kind=true/\q=(Qj,v)):=fun q d=>by
  unfold Ye at d;simp at d;rcases d with h | h |⟨_,h⟩ | h
  ·exact .inl h
  ·exact .inr (.inl h)
  ·exact .inr (.inr (.inl h))
  ·exact .inr (.inr (.inr h))
 intro q d;rcases f q d with rfl | rfl | rfl |⟨b,rfl⟩
 ·exact⟨Ko.1,by rw[Zj];exact Ts _,by rw[zw],by rw[zD]⟩
 ·exact⟨Ko.2.1,by rw[Zj];exact hv.1,by rw[zw],by rw[zD]⟩
 ·exact⟨Ko.2.2.1,by rw[Zj];exact hv.2,by rw[zw],by rw[zD]⟩
 ·exact⟨Ko.2.2.2,(a b).1,(a b).2.1,(a b).2.2⟩
theorem Ph(m:zk)(v:JV):((Ye m v).map (·.1)).Nodup:=by
 unfold Ye
 cases Zh m.kind<;>cases zY m.kind<;>simp[qU,ZS,qA,Qj]
theorem Tu{m:zk}{v:JV}(h:Vk m v)(hv:qV m=true):Zj (Jl m v)/\zw (Jl m v)=false/\zD (Jl m v)=false:=by
 have b:=Tt h hv;unfold Jl;refine⟨?_,?_,?_⟩
 ·rw[Zj,UR,JM.toL_ofL];exact fun q a=>⟨(b q a).1,(b q a).2.1⟩
 ·rw[zw,WK,JM.toL_ofL];exact⟨fun q a=>(b q a).2.2.1,Ph m v,fun q _ hk=>by simp at hk⟩
 ·rw[zD,← Bool.not_eq_true,WJ,JM.toL_ofL];rintro⟨q,a,d⟩;rw[(b q a).2.2.2]at d;cases d
def JL.ofL:List JV->JL
 | []=>.nil
 | v :: r=>.cons v (JL.ofL r)
theorem JL.toL_ofL:∀ l:List JV,(JL.ofL l).toL=l
 | []=>rfl
 | v :: r=>by rw[JL.ofL,JL.toL,JL.toL_ofL r]
theorem Kq:∀ l:JL,Qb l↔∀ v∈l.toL,Zj v
 | .nil=>by rw[Qb];simp[JL.toL]
 | .cons v r=>by rw[Qb,Kq r,JL.toL];simp
theorem Kr:∀ l:JL,ZG l=false↔∀ v∈l.toL,zw v=false
 | .nil=>by rw[ZG];simp[JL.toL]
 | .cons v r=>by rw[ZG,Bool.or_eq_false_iff,Kr r,JL.toL];simp
theorem Ks:∀ l:JL,ZU l=false↔∀ v∈l.toL,zD v=false
 | .nil=>by rw[ZU];simp[JL.toL]
 | .cons v r=>by rw[ZU,Bool.or_eq_false_iff,Ks r,JL.toL];simp
def JD(ps:List (zk×JV)):JV:=.arr (JL.ofL (ps.map fun q=>Jl q.1 q.2))
theorem Pi{ps:List (zk×JV)}(h:∀ q∈ps,Vk q.1 q.2):ct (JD ps)=Zi ((ps.map (·.1)).map qd):=by
 unfold JD;rw[ct,qH,JL.toL_ofL,List.map_map,List.map_map];congr 1;exact List.map_congr_left fun q hq=>Pf (h q hq)
theorem Pj{ps:List (zk×JV)}(h:∀ q∈ps,Vk q.1 q.2)(hv:∀ q∈ps,qV q.1=true):Zj (JD ps)/\zw (JD ps)=false/\zD (JD ps)=false:=by
 have a:∀ t∈ps.map (fun q=>Jl q.1 q.2),Zj t/\zw t=false/\zD t=false:=fun t ht=>by
  obtain⟨q,b,rfl⟩:=yN.1 ht;exact Tu (h q b) (hv q b)
 unfold JD;refine⟨?_,?_,?_⟩
 ·rw[Zj,Kq,JL.toL_ofL];exact fun t ht=>(a t ht).1
 ·rw[zw,Kr,JL.toL_ofL];exact fun t ht=>(a t ht).2.1
 ·rw[zD,Ks,JL.toL_ofL];exact fun t ht=>(a t ht).2.2
theorem Pk{v:JV}(h:Zj v)(hb:zD v=false)(ht:zw v=false):Z1 (zi (ct v))=decide (zE v<=100/\zo v<=3000/\(ct v).length<=20000):=by
 unfold Z1;rw[OM h hb ht];by_cases a:20000<(ct v).length
 ·rw[yf a];simp;omega
 ·rw[ye a];by_cases b:100<zE v∨3000<zo v
  ·rw[yf b];simp;omega
  ·rw[ye b];simp only[(VK v).ct,beq_self_eq_true];symm;rw[decide_eq_true_eq];omega
theorem Pl{ms:List zk}(hs:∀ m∈ms,Zh m.kind=false->m.src.toList=[]){m:zk}(hm:m∈ms)(hv:qV m=false):Z1 (zi (Zi (ms.map qd)))=false:=by
 rw[← Bool.not_eq_true];intro h;obtain⟨v,d,f⟩:=Kk.1 h;obtain⟨_,g,_,_,_,_⟩:=UK d;have b:=(Gw g).1;have a:=OP v b;rw[Pe f,Zd,Lq,List.all_eq_true]at a;have:=Pg (hs m hm) (a (qd m) (yN.2 ⟨m,hm,rfl⟩));rw[this]at hv;cases hv
end Go.Proofs.YtpaecnbdoljafaaGreatDoor
