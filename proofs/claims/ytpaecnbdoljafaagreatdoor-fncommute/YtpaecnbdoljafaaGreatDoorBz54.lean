import Derived.Test.YtpaecnbdoljafaaGreatDoorBz8
set_option maxRecDepth 100000
set_option maxHeartbeats 8000000
namespace Go.Proofs.YtpaecnbdoljafaaGreatDoor
open Go.RowKit Go.Proofs.Tryz
def Wh(xs ys:List (List UInt8)):Bool:=xs.any fun x=>ys.any fun y=>YX x y
theorem zgc(a b:List Bs):Wh (JP a) (JP b)=VJ (a.map (·.data.toList)) (b.map (·.data.toList)):=by
 unfold Wh VJ JP;rw[List.any_map,List.any_filter,List.any_map];congr 1;funext x;simp only[Function.comp_apply];rw[List.any_map,List.any_filter,List.any_map]
 cases hx:(zK x.data.toList).isSome with
 | false=>
  have h:∀ y,YK x.data.toList y=false:=fun y=>by unfold YK;rw[hx];rfl
  simp[Function.comp_def,h]
 | true=>
  rw[Bool.true_and];congr 1;funext y;simp[YK,YX,hx]
def Q0(a b:List Bs):Bool:=if a.length<=1000/\b.length<=1000 then VJ (a.map (·.data.toList)) (b.map (·.data.toList))else false
theorem EL{l:List (List UInt8)}{k:Nat}(h:k<l.length):l.getD k []∈l:=by simp[List.getD,h]
theorem zgd(xa ya:Option Addr)(xb xo xc yb yo yc:Nat)(a b:List Bs)(w:Wo)(hML:ML w)(h:SS w xa xb xo a)(k:SS w ya yb yo b)(ha:VH a)(hb:VH b):
  Calls prog 15 #[.slice xa a.length xc,.slice ya b.length yc] w fun e w'=>e= .returned (.bool (Q0 a b))/\Bw w w':=by
 by_cases F:a.length<=1000
 ·by_cases G:b.length<=1000
  ·have HR:Hid (Q0 a b=Wh (JP a) (JP b)):=by show _=_;rw[zgc];unfold Q0;rw[yg ⟨F,G⟩]
   have V:=ze (As xa xb xo xc a w hML h ha);have W:Hid (∀ w',Bw w w'->Calls prog 45 #[.slice ya b.length yc] w' fun e r=>∃ v,e= .returned v/\OT r w'.heap.size v (JP b)/\Bw w' r):=fun w' h'=>As ya yb yo yc b w' (hML.below h') (k.below h') hb;have hl1:=SY a;have hl2:=SY b;clear h k hML;generalize JP a=l at *;generalize JP b=d at *;go_in;go_wp2_with fail;refine (uh V).mono ?_;rintro e w1 ⟨v1,rfl,Z,N⟩;have z:=ze (uh W w1 N);clear V W;go_wp2_with fail;refine (uh z).mono ?_;rintro e r ⟨v2,rfl,o2,O⟩;have J:=Zd Z O;have S:=zi N O;clear z Z N O;obtain⟨x1,g1,c1,rfl,s1,_⟩:=OT.shape J;obtain⟨x2,g2,c2,rfl,s2,_⟩:=OT.shape o2;have L:=s1.ad;have D:=s2.ad;have T:=ze s1.cell;have U:=ze s2.cell;simp only[yl]at L D T U;clear s1 s2 J o2;go_wp2;go_loopw [25] (fun i wr=>∃ n:Nat,n<=l.length/\i= .int .i64 n/\(∀ j,j<n->∀ m,m<d.length->YX (l.getD j []) (d.getD m [])=false)/\r=wr) (fun i _=>l.length - (intOf i).toNat)
   case atStart=>exact⟨0,yu _,rfl,fun j E=>by omega,rfl⟩
   case round=>
    obtain⟨n,hn,rfl,I,rfl⟩:=hrel;have A:=ze I;clear I;by_cases u:n<l.length
    ·have Q:=uh T n u;rw[XK u,Nat.zero_add]at Q;obtain rfl:=L (by omega);have X:(n:Int)<(l.length:Int):=by omega
     clear L;have M:Hid (∀ m,m<d.length->YX (l.getD n []) (d.getD m [])=true->Wh l d=true):=fun m H e=>by
      unfold Wh;rw[List.any_eq_true];refine⟨_,EL u,?_⟩;rw[List.any_eq_true];exact⟨_,EL H,e⟩
     generalize hp:l.getD n []=p at *;have HP:=ze hp;clear hp;go_wp2;go_loopw [31] (fun i wr=>∃ m:Nat,m<=d.length/\i= .int .i64 m/\(∀ j,j<m->YX p (d.getD j [])=false)/\r=wr) (fun i _=>d.length - (intOf i).toNat)
     case atStart=>exact⟨0,yu _,rfl,fun j E=>by omega,rfl⟩
     case round=>
      obtain⟨m,H,rfl,o,rfl⟩:=hrel;have K:=ze o;clear o;by_cases g:m<d.length
      ·have R:=uh U m g;rw[XK g,Nat.zero_add]at R;obtain rfl:=D (by omega);have Y:(m:Int)<(d.length:Int):=by omega
       have s:=ze (uh M m g);have f:Hid (YX p (d.getD m [])=false->∀ j,j<m+1->YX p (d.getD j [])=false):=fun e j E=>by
        by_cases P:j=m
        ·subst P;exact e
        ·exact uh K j (by omega)
       clear D K M A;generalize d.getD m []=q at *;have C:Hid (Calls prog 46 #[.string (zH p),.string (zH q)] r (Rk (.bool (YX p q)) r)):=ze (by
        have:=zg1 (zH p) (zH q) r;simpa [zH]using this)
       cases h1:YX p q with
       | true=>
        rw[h1]at C;have B:Hid (Wh l d=true):=uh s h1;clear h1 s f;go_wp2_with fail;refine (uh C).mono ?_;rintro e w3 ⟨rfl,rfl⟩;go_wp2;go_ret;exact⟨by rw[uh HR,uh B];rfl,S⟩
       | false=>
        rw[h1]at C;have B:=ze (uh f h1);clear h1 s f;go_wp2_with fail;refine (uh C).mono ?_;rintro e w3 ⟨rfl,rfl⟩;clear C;go_wp2;go_roundw
        case rel=>exact⟨m+1,by omega,by go_num,uh B,trivial⟩
        case measure=>simp[intOf];omega
      ·have f:Hid (∀ j,j<n+1->∀ m,m<d.length->YX (l.getD j []) (d.getD m [])=false):=fun j E m' hm'=>by
        by_cases P:j=n
        ·subst P;rw[uh HP];exact uh K m' (by omega)
        ·exact uh A j (by omega) m' hm'
       clear D K M A;go_wp2;go_roundw
       case rel=>exact⟨n+1,by omega,by go_num,uh f,trivial⟩
       case measure=>simp[intOf];omega
    ·have B:Hid (Wh l d=false):=by
      show _=_
      unfold Wh;rw[List.any_eq_false];intro x hx;rw[Bool.not_eq_true,List.any_eq_false];intro y hy;obtain⟨j,E,rfl⟩:=List.getElem_of_mem hx;obtain⟨m,H,rfl⟩:=List.getElem_of_mem hy;have:=uh A j (by omega) m H;rw[Bool.not_eq_true];simpa [List.getD,E,H]using this
     clear L D A;go_wp2;go_ret;exact⟨by rw[uh HR,uh B];rfl,S⟩
  ·have HR:Hid (Q0 a b=false):=by show _=_;unfold Q0;rw[yf (fun e=>G e.2)]
   have t1:¬ (1000:Int)<(a.length:Int):=by omega
   have t2:(1000:Int)<(b.length:Int):=by omega
   go_in;go_wp2;go_ret;exact⟨by rw[uh HR];rfl,yI _ _⟩
 ·have HR:Hid (Q0 a b=false):=by show _=_;unfold Q0;rw[yf (fun e=>F e.1)]
  have t1:(1000:Int)<(a.length:Int):=by omega
  go_in;go_wp2;go_ret;exact⟨by rw[uh HR];rfl,yI _ _⟩
theorem EM(o:Option (List (List UInt8))):(o.isSome=false/\o=none)∨∃ ts,o=some ts:=by cases o with
 | none=>exact .inl ⟨rfl,rfl⟩
 | some t=>exact .inr ⟨t,rfl⟩
theorem zge(s t:Bs)(w:Wo)(hs:s.size<=1048576)(ht:t.size<=1048576):
  Calls prog 39 #[.string s,.string t] w fun e w'=>e= .returned (.int .i64 (YJ (zK s.data.toList) (zK t.data.toList)))/\Bw w w':=by
 have u:=OV s.data.toList;have z:=OV t.data.toList;rw[Zg]at u z;have h:=ze (Gl s w hs);have k:Hid (∀ w,Calls prog 41 #[.string t] w fun e w'=>∃ v,e= .returned (.tuple #[v,.bool (zK t.data.toList).isSome])/\OT w' w.heap.size v ((zK t.data.toList).getD [])/\Bw w w'):=fun w=>Gl t w ht;generalize zK s.data.toList=i at *;generalize zK t.data.toList=f at *;rcases EM i with ⟨o,rfl⟩ |⟨a,rfl⟩
 ·have HR:Hid (YJ none f= -1):=rfl;clear o;simp only[Option.isSome_none,Option.getD_none]at h;go_in;go_wp2_with fail;refine (uh h).mono ?_;rintro e G ⟨p,rfl,i,l⟩;clear i;go_wp2_with fail;refine (uh k _).mono ?_;rintro e j ⟨q,rfl,f,d⟩;have r:=zi l d;clear f l d h k;go_wp2;go_ret;exact⟨by rw[uh HR];rfl,r⟩
 ·rcases EM f with ⟨o,rfl⟩ |⟨b,rfl⟩
  ·have HR:Hid (YJ (some a) none= -1):=rfl;clear o;simp only[Option.isSome_none,Option.getD_none,Option.isSome_some,Option.getD_some]at h k;go_in;go_wp2_with fail;refine (uh h).mono ?_;rintro e G ⟨p,rfl,i,l⟩;clear i;go_wp2_with fail;refine (uh k _).mono ?_;rintro e j ⟨q,rfl,f,d⟩;have r:=zi l d;clear f l d h k;go_wp2;go_ret;exact⟨by rw[uh HR];rfl,r⟩
  ·simp only[Option.isSome_some,Option.getD_some]at h k u z;have HR:Hid (YJ (some a) (some b)=if pre a b=true/\pre b a=true then 1 else if pre a b=true then 2 else if pre b a=true then 3 else 0):=rfl;go_in;go_wp2_with fail;refine (uh h).mono ?_;rintro e G ⟨p,rfl,i,l⟩;go_wp2_with fail;refine (uh k _).mono ?_;rintro e j ⟨q,rfl,f,d⟩;have r:=zi l d;have A:Hid (∀ n,Calls prog 85 #[p,q] (j.drewN n) fun e w'=>e= .returned (.bool (pre a b))/\∃ n,w'=j.drewN n):=fun n=>(Nm p q a b (j.drewN n) (Zd i (d.trans (OU _ _ _))) f (by omega) (by omega)).mono (by rintro e w' ⟨o,m,rfl⟩;exact⟨o,_,World.drewN_drewN ..⟩);have B:Hid (∀ n,Calls prog 85 #[q,p] (j.drewN n) fun e w'=>e= .returned (.bool (pre b a))/\∃ n,w'=j.drewN n):=fun n=>(Nm q p b a (j.drewN n) f (Zd i (d.trans (OU _ _ _))) (by omega) (by omega)).mono (by rintro e w' ⟨o,m,rfl⟩;exact⟨o,_,World.drewN_drewN ..⟩);clear i f l d h k;generalize pre a b=x at *;generalize pre b a=y at *;go_wp2_with fail;refine (uh A 0).mono ?_;rintro e J ⟨rfl,I,rfl⟩;have E:∀ n,Bw w (j.drewN n):=fun n=>r.trans (OU _ _ _);have g:=ze E;clear E
   cases x<;>cases y
   ·go_wp2_with fail;refine (uh A _).mono ?_;rintro e D ⟨rfl,C,rfl⟩;go_wp2_with fail;refine (uh B _).mono ?_;rintro e H ⟨rfl,F,rfl⟩;go_wp2;go_ret;exact⟨by rw[uh HR];rfl,uh g _⟩
   ·go_wp2_with fail;refine (uh A _).mono ?_;rintro e D ⟨rfl,C,rfl⟩;go_wp2_with fail;refine (uh B _).mono ?_;rintro e H ⟨rfl,F,rfl⟩;go_wp2;go_ret;exact⟨by rw[uh HR];rfl,uh g _⟩
   ·go_wp2_with fail;refine (uh B _).mono ?_;rintro e D ⟨rfl,C,rfl⟩;go_wp2_with fail;refine (uh A _).mono ?_;rintro e H ⟨rfl,F,rfl⟩;go_wp2;go_ret;exact⟨by rw[uh HR];rfl,uh g _⟩
   ·go_wp2_with fail;refine (uh B _).mono ?_;rintro e D ⟨rfl,C,rfl⟩;go_wp2;go_ret;exact⟨by rw[uh HR];rfl,uh g _⟩
theorem zgf(xa ya:Option Addr)(xb xo xc yb yo yc:Nat)(a b:List Bs)(w:Wo)(h:SS w xa xb xo a)(k:SS w ya yb yo b)(ha:VH a)(hb:VH b):
  Calls prog 13 #[.slice xa a.length xc,.slice ya b.length yc] w fun e w'=>e= .returned (.bool (Q0 a b))/\Bw w w':=by
 by_cases E:a.length<=1000
 ·by_cases F:b.length<=1000
  ·have HR:Hid (Q0 a b=VJ (a.map (·.data.toList)) (b.map (·.data.toList))):=by show _=_;unfold Q0;rw[yg ⟨E,F⟩]
   have J:=ze h;have K:=ze k;have R:=h.ad;have N:=k.ad;have Z:=ze ha;have HB:=ze hb;clear h k ha hb;go_in;go_wp2;go_loopw [5] (fun i wr=>∃ n:Nat,n<=a.length/\i= .int .i64 n/\(∀ j,j<n->∀ m,m<b.length->YK (a.getD j ByteArray.empty).data.toList (b.getD m ByteArray.empty).data.toList=false)/\Bw w wr) (fun i _=>a.length - (intOf i).toNat)
   case atStart=>exact⟨0,yu _,rfl,fun j D=>by omega,yI _ _⟩
   case round=>
    obtain⟨n,hn,rfl,I,B⟩:=hrel;have v:=ze I;clear I;by_cases s:n<a.length
    ·obtain rfl:=R (by omega);have V:(n:Int)<(a.length:Int):=by omega
     have T:(a.getD n ByteArray.empty).size<=1048576:=(uh Z).at s;clear R;have Q:Hid (∀ m,m<b.length->YK (a.getD n ByteArray.empty).data.toList (b.getD m ByteArray.empty).data.toList=true->VJ (a.map (·.data.toList)) (b.map (·.data.toList))=true):=fun m G e=>by
      unfold VJ;rw[List.any_map,List.any_eq_true];refine⟨a.getD n ByteArray.empty,by simp[List.getD,s],?_⟩;simp only[Function.comp_apply];rw[List.any_map,List.any_eq_true];exact⟨b.getD m ByteArray.empty,by simp[List.getD,G],e⟩
     have P:Hid (∀ X:Wo,Bw w X->X.cell? ⟨xb,xo+n,none⟩=some (.string (a.getD n ByteArray.empty))):=fun X hX=>((uh J).below hX).cell n s;generalize hp:a.getD n ByteArray.empty=p at *;have HP:=ze hp;clear hp;have u:=ze B;clear B;go_wp2;go_loopw [6] (fun i wr=>∃ m:Nat,m<=b.length/\i= .int .i64 m/\(∀ j,j<m->YK p.data.toList (b.getD j ByteArray.empty).data.toList=false)/\Bw w wr) (fun i _=>b.length - (intOf i).toNat)
     case atStart=>exact⟨0,yu _,rfl,fun j D=>by omega,uh u⟩
     case round=>
      obtain⟨m,G,rfl,o,B⟩:=hrel;have L:=ze o;clear o u;by_cases f:m<b.length
      ·obtain rfl:=N (by omega);have W:(m:Int)<(b.length:Int):=by omega
       have U:(b.getD m ByteArray.empty).size<=1048576:=(uh HB).at f;have c1:=uh P _ B.drew;have c2:=((uh K).below B.drew).cell m f;have r:=ze (uh Q m f);have d:Hid (YK p.data.toList (b.getD m ByteArray.empty).data.toList=false->∀ j,j<m+1->YK p.data.toList (b.getD j ByteArray.empty).data.toList=false):=fun e j D=>by
        by_cases S:j=m
        ·subst S;exact e
        ·exact uh L j (by omega)
       clear N L Q v J K P;generalize b.getD m ByteArray.empty=q at *;have M:Hid (∀ w,Calls prog 39 #[.string p,.string q] w (Rb (.int .i64 (YJ (zK p.data.toList) (zK q.data.toList))) w)):=fun w=>zge p q w T U;have H:=DV p.data.toList q.data.toList;generalize YJ (zK p.data.toList) (zK q.data.toList)=z at *;have l:=ze H;clear H;have g:=ze B;clear B;by_cases Y:0<z
       ·have A:=ze (uh r (by rw[uh l];exact yj Y));clear r d l;go_wp2_with fail;go_region_law (go_simp;refine (uh M _).mono ?_;rintro e w2 ⟨rfl,C⟩;have O:=zi ((uh g).drew) C)
        all_goals
         clear C M g c1 c2;go_wp2;go_ret;exact⟨by rw[uh HR,uh A];rfl,O⟩
       ·have A:=ze (uh d (by rw[uh l];exact yk Y));clear r d l;go_wp2_with fail;go_region_law (go_simp;refine (uh M _).mono ?_;rintro e w2 ⟨rfl,C⟩;have O:=zi ((uh g).drew) C)
        all_goals
         clear C M g c1 c2;go_wp2;go_roundw
        all_goals first
         | exact⟨m+1,by omega,by go_num,uh A,O⟩
         |(simp[intOf];omega)
      ·have d:Hid (∀ j,j<n+1->∀ m,m<b.length->YK (a.getD j ByteArray.empty).data.toList (b.getD m ByteArray.empty).data.toList=false):=fun j D m' hm'=>by
        by_cases S:j=n
        ·subst S;rw[uh HP];exact uh L m' (by omega)
        ·exact uh v j (by omega) m' hm'
       clear N L Q v J K P;go_wp2;go_roundw
       case rel=>exact⟨n+1,by omega,by go_num,uh d,B⟩
       case measure=>simp[intOf];omega
    ·have A:Hid (VJ (a.map (·.data.toList)) (b.map (·.data.toList))=false):=by
      show _=_
      unfold VJ;rw[List.any_map,List.any_eq_false];intro x hx;rw[Bool.not_eq_true];simp only[Function.comp_apply];rw[List.any_map,List.any_eq_false];intro y hy;obtain⟨j,D,rfl⟩:=List.getElem_of_mem hx;obtain⟨m,G,rfl⟩:=List.getElem_of_mem hy;have:=uh v j (by omega) m G;rw[Bool.not_eq_true];simpa [List.getD,D,G]using this
     clear R N v J K;go_wp2;go_ret;exact⟨by rw[uh HR,uh A];rfl,B⟩
  ·have HR:Hid (Q0 a b=false):=by show _=_;unfold Q0;rw[yf (fun e=>F e.2)]
   have t1:¬ (1000:Int)<(a.length:Int):=by omega
   have t2:(1000:Int)<(b.length:Int):=by omega
   clear h k;go_in;go_wp2;go_ret;exact⟨by rw[uh HR];rfl,yI _ _⟩
 ·have HR:Hid (Q0 a b=false):=by show _=_;unfold Q0;rw[yf (fun e=>E e.1)]
  have t1:(1000:Int)<(a.length:Int):=by omega
  clear h k;go_in;go_wp2;go_ret;exact⟨by rw[uh HR];rfl,yI _ _⟩
end Go.Proofs.YtpaecnbdoljafaaGreatDoor
