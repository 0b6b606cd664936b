import Derived.Test.YtpaecnbdoljafaaGreatDoorBz16
import Derived.Test.YtpaecnbdoljafaaGreatDoorBz17
set_option maxRecDepth 100000
set_option maxHeartbeats 8000000
namespace Go.Proofs.YtpaecnbdoljafaaGreatDoor
open Go.RowKit Go.Proofs.Tryz
def Y1(s t:Bs):Bool:=match zI s,zI t with
 | .inr a,.inr b=>decide (zj a+zj b<=3000) && decide ((ct a).length+(ct b).length<=20000)
 | _,_=>false
theorem za7(s t:Bs)(w:Wo)(hs:s.size<=1048576)(ht:t.size<=1048576):
  Calls prog 10 #[.string s,.string t] w fun e w'=>e= .returned (.bool (Y1 s t))/\Bw w w':=by
 have j:=ze fun wx=>Wi s wx hs;have h:=ze fun wx=>Wi t wx ht;clear hs ht
 cases hr:zI s with
 | inl c=>
  have z:=FM hr;have p:Zx s= .tuple #[.string ⟨#[]⟩,.int .i64 (c:Int)]:=by unfold Zx;rw[hr]
  have i:Hid (Y1 s t=false):=by show _=_;unfold Y1;rw[hr]
  rw[p]at j;have B:((c:Int) !=0)=true:=by simp;omega
  obtain⟨A,C,G⟩:∃ (A:Bs) (C:Int),Zx t= .tuple #[.string A,.int .i64 C]:=by
   unfold Zx;cases zI t<;>exact⟨_,_,rfl⟩
  rw[G]at h;clear hr z p G;go_in;go_wp2_with fail;refine (uh j _).mono ?_;rintro e J ⟨rfl,k⟩;have d:=ze k;clear k;go_wp2_with fail;refine (uh h _).mono ?_;rintro e K ⟨rfl,l⟩;have f:=ze (zi (uh d) l);clear l j h;go_wp2;go_ret;exact⟨by rw[uh i];rfl,uh f⟩
 | inr a=>
  have n:=ZF.of hr;have p:Zx s= .tuple #[.string (zh (ct a)),.int .i64 0]:=by unfold Zx;rw[hr]
  rw[p]at j
  cases hr2:zI t with
  | inl c=>
   have z:=FM hr2;have g:Zx t= .tuple #[.string ⟨#[]⟩,.int .i64 (c:Int)]:=by unfold Zx;rw[hr2]
   have i:Hid (Y1 s t=false):=by show _=_;unfold Y1;rw[hr,hr2]
   rw[g]at h;have B:((c:Int) !=0)=true:=by simp;omega
   clear hr hr2 z p g n;go_in;go_wp2_with fail;refine (uh j _).mono ?_;rintro e J ⟨rfl,k⟩;have d:=ze k;clear k;go_wp2_with fail;refine (uh h _).mono ?_;rintro e K ⟨rfl,l⟩;have f:=ze (zi (uh d) l);clear l j h;go_wp2;go_ret;exact⟨by rw[uh i];rfl,uh f⟩
  | inr b=>
   have o:=ZF.of hr2;have g:Zx t= .tuple #[.string (zh (ct b)),.int .i64 0]:=by unfold Zx;rw[hr2]
   rw[g]at h;have i:Hid (Y1 s t=(decide (zj a+zj b<=3000) && decide ((ct a).length+(ct b).length<=20000))):=by show _=_;unfold Y1;rw[hr,hr2]
   have r:=ze fun wx=>KN a n.ok (by have:=n.len;omega) (by have:=n.cnt;omega) wx;have u:=ze fun wx=>KN b o.ok (by have:=o.len;omega) (by have:=o.cnt;omega) wx;have S:(zh (ct a)).size=(ct a).length:=zN _;have T:(zh (ct b)).size=(ct b).length:=zN _;have O:=n.len;have P:=o.len;have L:=n.cnt;have M:=o.cnt;clear hr hr2 p g n o;obtain⟨x,hx⟩:∃ x,zj a=x:=⟨_,rfl⟩;obtain⟨y,H⟩:∃ y,zj b=y:=⟨_,rfl⟩;rw[hx]at r i L;rw[H]at u i M;clear hx H;go_in;go_wp2_with fail;refine (uh j _).mono ?_;rintro e J ⟨rfl,k⟩;have d:=ze k;clear k j;go_wp2_with fail;refine (uh h _).mono ?_;rintro e K ⟨rfl,l⟩;have f:=ze (zi (uh d) l);clear l h d;go_wp2_with fail;refine (uh r _).mono ?_;rintro e Q ⟨rfl,D⟩;have q:=ze (zi (uh f) D);clear D r f;go_wp2_with fail;refine (uh u _).mono ?_;rintro e R ⟨rfl,E⟩;have m:=ze (zi (uh q) E);clear E u q;by_cases v:x+y<=3000
   ·by_cases F:(ct a).length+(ct b).length<=20000
    ·have I:((x:Int)+(y:Int)<=3000)=True:=eq_true (by omega);have N:(((ct a).length:Int)+((ct b).length:Int)<=20000)=True:=eq_true (by omega);go_wp2;go_ret;exact⟨by rw[uh i,yj v,yj F];rfl,uh m⟩
    ·have I:((x:Int)+(y:Int)<=3000)=True:=eq_true (by omega);have N:(((ct a).length:Int)+((ct b).length:Int)<=20000)=False:=yR (by omega);go_wp2;go_ret;exact⟨by rw[uh i,yj v,yk F];rfl,uh m⟩
   ·have I:((x:Int)+(y:Int)<=3000)=False:=yR (by omega);go_wp2;go_ret;exact⟨by rw[uh i,yk v];rfl,uh m⟩
end Go.Proofs.YtpaecnbdoljafaaGreatDoor
