import Derived.Test.YtpaecnbdoljafaaGreatDoorBz11
import Derived.Test.YtpaecnbdoljafaaGreatDoorBz6
set_option maxRecDepth 100000
set_option maxHeartbeats 8000000
namespace Go.Proofs.YtpaecnbdoljafaaGreatDoor
open Go.RowKit Go.Proofs.Tryz
def Qy(s:Bs):Bool:=match zI s with
 | .inl _=>false
 | .inr v=>(zh (ct v)).toList ==s.toList
theorem XU{s:Bs}:Qy s=true↔∃ v,zI s= .inr v/\zh (ct v)=s:=by
 unfold Qy
 cases h:zI s with
 | inl c=>simp
 | inr v=>
  simp only[yD];constructor
  ·intro e;refine⟨v,rfl,?_⟩;rw[ByteArray.toList_eq,ByteArray.toList_eq]at e;have:(zh (ct v)).data=s.data:=Array.toList_inj.1 e;exact congrArg ByteArray.mk this
  ·rintro⟨d,a,b⟩;injection a with a;subst a;rw[b]
theorem zad{s:Bs}{c:Nat}(h:zI s= .inl c):c≠0:=by
 unfold zI at h
 repeat' split at h
 all_goals first
  |(injection h with h;omega)
  | cases h
theorem zae(s:Bs)(w:Wo)(hs:s.size<=1048576):
  Calls prog 58 #[.string s] w fun e w'=>e= .returned (.bool (Qy s))/\Bw w w':=by
 have HC:=ze (Wi s w hs)
 cases hr:zI s with
 | inl c=>
  have f:=zad hr;have b:Zx s= .tuple #[.string ⟨#[]⟩,.int .i64 (c:Int)]:=by unfold Zx;rw[hr]
  have a:Qy s=false:=by unfold Qy;rw[hr]
  rw[b]at HC;rw[a];have g:((c:Int) ==0)=false:=by simp only[yd,ne_eq];omega
  clear hr f b a;go_in;go_wp2_with fail;refine (uh HC).mono ?_;rintro e h ⟨rfl,d⟩;clear HC;go_wp2;go_ret;exact⟨rfl,d⟩
 | inr v=>
  have b:Zx s= .tuple #[.string (zh (ct v)),.int .i64 0]:=by unfold Zx;rw[hr]
  have a:Qy s=((zh (ct v)).toList ==s.toList):=by unfold Qy;rw[hr]
  rw[b]at HC;rw[a];clear hr b a;generalize zh (ct v)=u at *;go_in;go_wp2_with fail;refine (uh HC).mono ?_;rintro e h ⟨rfl,d⟩;clear HC;go_wp2;go_ret;exact⟨rfl,d⟩
def ZR(k:Int):Bool:=k ==1 || k ==3 || k ==6
def Qj(k:Int):Bool:=k ==4 || k ==5
theorem D7(k:Int)(w:Wo):Calls prog 88 #[.int .i64 k] w fun e w'=>e= .returned (.bool (ZR k))/\w=w':=by
 unfold ZR;by_cases a:k=1
 ·subst a;go_in;go_wp2;go_ret;exact⟨rfl,rfl⟩
 ·by_cases b:k=3
  ·subst b;go_in;go_wp2;go_ret;exact⟨rfl,rfl⟩
  ·have d:(k ==1)=false:=by simpa using a
   have f:(k ==3)=false:=by simpa using b
   rw[d,f];go_in;go_wp2;go_ret;exact⟨by simp,rfl⟩
theorem ND(k:Int)(w:Wo):Calls prog 87 #[.int .i64 k] w fun e w'=>e= .returned (.bool (Qj k))/\w=w':=by
 unfold Qj;by_cases a:k=4
 ·subst a;go_in;go_wp2;go_ret;exact⟨rfl,rfl⟩
 ·have b:(k ==4)=false:=by simpa using a
  rw[b];go_in;go_wp2;go_ret;exact⟨by simp,rfl⟩
def Zu(m:zG):Bool:=decide (1<=m.kind) && decide (m.kind<=6) && (zK m.path.data.toList).isSome && (if Qj m.kind then (zK m.src.data.toList).isSome else m.src.toList ==[]) && (if ZR m.kind then Qy m.val else m.val.toList ==[])
theorem NE(m:zG)(w:Wo)(h1:m.path.size<=1048576)(h2:m.src.size<=1048576)(h3:m.val.size<=1048576):
  Calls prog 40 #[.agg #[.int .i64 m.kind,.string m.path,.string m.src,.string m.val]] w fun e w'=>e= .returned (.bool (Zu m))/\Bw w w':=by
 have x:=zY w (Obj.cells #[.int .i64 m.kind,.string m.path,.string m.src,.string m.val] 59);have O:=yH w (Obj.cells #[.int .i64 m.kind,.string m.path,.string m.src,.string m.val] 59);have j:Hid (∀ wx,Calls prog 86 #[.string m.path] wx (Rb (.bool (zK m.path.data.toList).isSome) wx)):=fun wx=>DJ m.path wx h1;have k:Hid (∀ wx,Calls prog 86 #[.string m.src] wx (Rb (.bool (zK m.src.data.toList).isSome) wx)):=fun wx=>DJ m.src wx h2;have i:Hid (∀ wx,Calls prog 58 #[.string m.val] wx (Rb (.bool (Qy m.val)) wx)):=fun wx=>zae m.val wx h3;have f:Hid (∀ wx,Calls prog 87 #[.int .i64 m.kind] wx (Rk (.bool (Qj m.kind)) wx)):=fun wx=>ND m.kind wx;have g:Hid (∀ wx,Calls prog 88 #[.int .i64 m.kind] wx (Rk (.bool (ZR m.kind)) wx)):=fun wx=>D7 m.kind wx;by_cases Y:m.kind<1
 ·have l:Zu m=false:=by unfold Zu;rw[yk (by omega)];simp
  rw[l];go_in;go_wp2;go_ret;exact⟨rfl,x⟩
 ·by_cases Z:6<m.kind
  ·have l:Zu m=false:=by unfold Zu;rw[yk (p:=m.kind<=6) (by omega)];simp
   rw[l];go_in;go_wp2;go_ret;exact⟨rfl,x⟩
  ·have M:Zu m=((zK m.path.data.toList).isSome && (if Qj m.kind then (zK m.src.data.toList).isSome else m.src.toList ==[]) && (if ZR m.kind then Qy m.val else m.val.toList ==[])):=by
    unfold Zu;rw[yj (by omega),yj (by omega)];simp
   rw[M];clear M;have r:(m.src.toList ==[])=decide (m.src.toList=[]):=by by_cases h:m.src.toList=[]<;>simp[h]
   have s:(m.val.toList ==[])=decide (m.val.toList=[]):=by by_cases h:m.val.toList=[]<;>simp[h]
   rw[r,s];clear r s;generalize (zK m.path.data.toList).isSome=R at *;generalize (zK m.src.data.toList).isSome=S at *;generalize Qy m.val=zg at *;generalize Qj m.kind=Q at *;generalize ZR m.kind=z at *;have d:Hid (∀ wx,Below (w.alloc (Obj.cells #[.int .i64 m.kind,.string m.path,.string m.src,.string m.val] 59)).heap.size (w.alloc (Obj.cells #[.int .i64 m.kind,.string m.path,.string m.src,.string m.val] 59)) wx->wx.cell? ⟨w.heap.size,0,none⟩=some (.int .i64 m.kind)/\wx.cell? ⟨w.heap.size,1,none⟩=some (.string m.path)/\wx.cell? ⟨w.heap.size,2,none⟩=some (.string m.src)/\wx.cell? ⟨w.heap.size,3,none⟩=some (.string m.val)):=fun wx hb=>by
    have y:=(hb.block w.heap.size (by simp)).trans O;exact⟨yG y 0,yG y 1,yG y 2,yG y 3⟩
   have A:=ze x;clear x O h1 h2 h3;go_in;go_wp2_with fail;refine (uh j _).mono ?_;rintro e V ⟨rfl,v⟩;obtain⟨c0,c1,c2,c3⟩:=uh d V v;have b:=ze (zi (uh A) v);have u:=ze v;clear v;by_cases D:R=true
   ·subst D;by_cases l:Q=true
    ·subst l;go_wp2_with fail;refine (uh f _).mono ?_;rintro e P ⟨rfl,rfl⟩;go_wp2_with fail;refine (uh k _).mono ?_;rintro e W ⟨rfl,B⟩;obtain⟨I,J,K,L⟩:=uh d W (zi (uh u) B);have b:=ze (zi (uh b) B);clear B u c0 c1 c2 c3 d;by_cases F:S=true
     ·subst F;go_wp2_with fail;refine (uh f _).mono ?_;rintro e w4 ⟨rfl,rfl⟩;have c0:=I;have c1:=J;have c2:=K;have c3:=L;clear I J K L;by_cases n:z=true
      ·subst n;go_wp2_with fail;refine (uh g _).mono ?_;rintro e H ⟨rfl,rfl⟩;go_wp2_with fail;refine (uh i _).mono ?_;rintro e X ⟨rfl,q⟩;have a:=ze (zi (uh b) q);clear q b c0 c1 c2 c3 j k i f g;go_wp2;go_ret;exact⟨by simp,uh a⟩
      ·have o:z=false:=by simpa using n
       subst o;go_wp2_with fail;refine (uh g _).mono ?_;rintro e H ⟨rfl,rfl⟩;have a:=b;clear b j k i f g n;go_wp2;go_ret;exact⟨by cases m.val.toList<;>simp,uh a⟩
     ·have G:S=false:=by simpa using F
      subst G;clear F;go_wp2;go_ret;exact⟨by simp,uh b⟩
    ·have C:Q=false:=by simpa using l
     subst C;go_wp2_with fail;refine (uh f _).mono ?_;rintro e P ⟨rfl,rfl⟩;go_wp2_with fail;refine (uh f _).mono ?_;rintro e P ⟨rfl,rfl⟩;clear u d l;by_cases N:m.src.toList=[]
     ·by_cases n:z=true
      ·subst n;go_wp2_with fail;refine (uh g _).mono ?_;rintro e H ⟨rfl,rfl⟩;go_wp2_with fail;refine (uh i _).mono ?_;rintro e X ⟨rfl,q⟩;have a:=ze (zi (uh b) q);clear q b c0 c1 c2 c3 j k i f g;go_wp2;go_ret;exact⟨by simp,uh a⟩
      ·have o:z=false:=by simpa using n
       subst o;go_wp2_with fail;refine (uh g _).mono ?_;rintro e H ⟨rfl,rfl⟩;have a:=b;clear b j k i f g n;go_wp2;go_ret;exact⟨by cases m.val.toList<;>simp,uh a⟩
     ·have T:m.src.toList.isEmpty=false:=by simpa using N
      have U:(m.src.toList ==[])=false:=by simpa using N
      clear j k i f g;go_wp2;go_ret;exact⟨by simp,uh b⟩
   ·have E:R=false:=by simpa using D
    subst E;clear D j k i f g d u c0 c1 c2 c3;go_wp2
    all_goals go_ret
    all_goals exact⟨by simp,uh b⟩
def Z9(ms:List zG):Int:=if 100<ms.length then 100 else match ms.findIdx? (fun m=>!Zu m)with
 | some i=>(i:Int)
 | none=>-1
def Wu(ms:List zG):Prop:=∀ m∈ms,m.path.size<=1048576/\m.src.size<=1048576/\m.val.size<=1048576
theorem NG{ms:List zG}(h:Yl ms<=1048576):Wu ms:=fun m hm=>by
 obtain⟨k,b,rfl⟩:=yY.1 hm;have d:=A4 Gs ms k ms[k] (yy b);have a:=AZ (ms.map Gs) (k+1);rw[← List.map_take]at a;unfold Yl at h;have f:Gs ms[k]=ms[k].path.size+ms[k].src.size+ms[k].val.size:=rfl;omega
def Gt(ms:List zG):Prop:=Wu ms/\ms.length<=1048576
theorem zaf{ms:List zG}(h:Yl ms<=1048576):Gt ms:=⟨NG h,by unfold Yl at h;omega⟩
theorem D8{ms:List zG}(hl:ms.length<=100){k:Nat}(hk:k<ms.length)(hb:Zu ms[k]=false)(hg:∀ j (h:j<ms.length),j<k->Zu ms[j]=true):Z9 ms=(k:Int):=by
 unfold Z9;rw[yf (by omega)];have:ms.findIdx? (fun m=>!Zu m)=some k:=by
  rw[List.findIdx?_eq_some_iff_getElem];exact⟨hk,by simp[hb],fun j hj=>by simp[hg j (by omega) hj]⟩
 rw[this]
theorem NH{ms:List zG}(hl:ms.length<=100)(hg:∀ j (h:j<ms.length),Zu ms[j]=true):Z9 ms= -1:=by
 unfold Z9;rw[yf (by omega)];have:ms.findIdx? (fun m=>!Zu m)=none:=by
  rw[List.findIdx?_eq_none_iff];intro x hx;obtain⟨j,a,rfl⟩:=yY.1 hx;simp[hg j a]
 rw[this]
theorem zag(v:Value)(ms:List zG)(bl:List Nat)(w:Wo)(h:Zr Yk w v ms bl)(hs:Wu ms):
  Calls prog 51 #[v] w fun e w'=>e= .returned (.int .i64 (Z9 ms))/\Bw w w':=by
 obtain⟨L,M,rfl,E,n⟩:=h.form;have H:=ze h;have r:=ze n;have D:=ze hs;have u:=h.len;unfold maxLen at u;clear h E n hs;by_cases C:ms.length<=100
 ·have s:¬ (100:Int)<(ms.length:Int):=by omega
  go_in;go_wp2;go_loopw [3] (fun i wr=>∃ k:Nat,k<=ms.length/\i= .int .i64 k/\(∀ j (h:j<ms.length),j<k->Zu ms[j]=true)/\Bw w wr) (fun i _=>ms.length - (intOf i).toNat)
  case atStart=>exact⟨0,yu _,rfl,fun j _ hj=>by omega,yI _ _⟩
  case round=>
   obtain⟨k,G,rfl,B,d⟩:=hrel;have p:=ze B;have o:=ze d;clear B d;by_cases l:k<ms.length
   ·have m:(k:Int)<(ms.length:Int):=by omega
    obtain⟨g,rfl⟩:=uh r (by omega);obtain⟨J,I,F,f,_⟩:=((uh H).below (uh o)).at (yy l);obtain⟨rfl,_⟩:=F;have c0:wr.cell? ⟨g,k*4,none⟩=some (.int .i64 ms[k].kind):=(f 0 _ rfl).1;have c1:wr.cell? ⟨g,k*4+1,none⟩=some (.string ms[k].path):=(f 1 _ rfl).1;have c2:wr.cell? ⟨g,k*4+2,none⟩=some (.string ms[k].src):=(f 2 _ rfl).1;have c3:wr.cell? ⟨g,k*4+3,none⟩=some (.string ms[k].val):=(f 3 _ rfl).1;have a:=uh D ms[k] (yt _);have q:=ze (NE ms[k] wr a.1 a.2.1 a.2.2);obtain⟨z,x⟩:∃ z,Zu ms[k]=z:=⟨_,rfl⟩;rw[x]at q;have y:=ze x;clear f a x;go_wp2_with fail;refine (uh q).mono ?_;rintro e K ⟨rfl,A⟩;have b:=ze (zi (uh o) A);clear q A o c0 c1 c2 c3
    cases z
    ·go_wp2;go_ret;exact⟨by rw[D8 C l (uh y) (uh p)];rfl,uh b⟩
    ·go_wp2;go_roundw
     case rel=>
      refine⟨k+1,by omega,by go_num,fun j hj hjk=>?_,uh b⟩;by_cases e:j=k
      ·subst e;exact uh y
      ·exact uh p j hj (by omega)
     case measure=>simp[intOf];omega
   ·have m:¬ (k:Int)<(ms.length:Int):=by omega
    go_wp2;go_ret;exact⟨by rw[NH C fun j hj=>uh p j hj (by omega)];rfl,uh o⟩
 ·have s:(100:Int)<(ms.length:Int):=by omega
  have d:Z9 ms=100:=by unfold Z9;rw[yg (by omega)]
  rw[d];clear d;go_in;go_wp2;go_ret;exact⟨rfl,yI _ _⟩
def zah(k:Int):List UInt8:=if k=1 then [97,100,100]else if k=2 then [114,101,109,111,118,101]else if k=3 then [114,101,112,108,97,99,101]else if k=4 then [109,111,118,101]else if k=5 then [99,111,112,121]else [116,101,115,116]
def JL.ofL:List JV->JL
 | []=>.nil
 | v :: r=>.cons v (JL.ofL r)
theorem JL.toL_ofL:∀ l:List JV,(JL.ofL l).toL=l
 | []=>rfl
 | v :: r=>by rw[JL.ofL,JL.toL,JL.toL_ofL r]
theorem NI:∀ l:JL,QM l↔∀ v∈l.toL,ZP v
 | .nil=>by rw[QM];simp[JL.toL]
 | .cons v r=>by rw[QM,NI r,JL.toL];simp
theorem NJ:∀ l:JL,qd l=false↔∀ v∈l.toL,zw v=false
 | .nil=>by rw[qd];simp[JL.toL]
 | .cons v r=>by rw[qd,Bool.or_eq_false_iff,NJ r,JL.toL];simp
theorem NK:∀ l:JL,qu l=false↔∀ v∈l.toL,zV v=false
 | .nil=>by rw[qu];simp[JL.toL]
 | .cons v r=>by rw[qu,Bool.or_eq_false_iff,NK r,JL.toL];simp
end Go.Proofs.YtpaecnbdoljafaaGreatDoor
