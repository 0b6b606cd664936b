import Derived.Test.YtekpghcckdjnhaaGreatDoorBz10
import Derived.Test.YtekpghcckdjnhaaGreatDoorBz12
set_option maxRecDepth 100000
set_option maxHeartbeats 8000000
namespace Go.Proofs.YtekpghcckdjnhaaGreatDoor
open Go.RowKit Go.Proofs.Tryz
theorem zcg(a b:Bs):Op.bytesLess a.toList b.toList=decide (a.data.toList<b.data.toList):=by
 rw[bytesLess_eq,ByteArray.toList_eq,ByteArray.toList_eq]
theorem zch(v:Value)(ss:List Bs)(bl:List Nat)(w:Wo)(h:qy w v ss bl)(hML:ML w)(hp:∀ s∈ss,s.size<=1048576):
  Calls prog 55 #[v] w fun e w'=>e= .returned (.bool (JA ss))/\Bw w w':=by
 have T:ss.length<=9223372036854775807:=by have:=h.len;unfold maxLen at this;omega
 obtain⟨Y,Z,rfl,M,C⟩:=h.form;clear M;have H:=zb h;have K:=zb C;have I:=zb hML;clear h C hML;by_cases W:1000<ss.length
 ·have x:Hid (JA ss=false):=OC (by rintro⟨h,_⟩;omega);have V:(1000:Int)<(ss.length:Int):=by omega
  go_in;go_wp2;go_ret;exact⟨by rw[uh x];rfl,yH _ _⟩
 ·have V:¬ (1000:Int)<(ss.length:Int):=by omega
  go_in;go_wp2;go_loopw [10] (fun i wr=>∃ k:Nat,k<=ss.length/\i= .int .i64 k/\Bw w wr/\(∀ j (h:j+1<ss.length),j+1<k->ss[j].data.toList<ss[j+1].data.toList)/\∀ j (h:j<ss.length),j<k->(zG ss[j].data.toList).isSome=true) (fun i _=>ss.length - (intOf i).toNat)
  case atStart=>exact⟨0,yt _,rfl,yH _ _,fun j _ h=>by omega,fun j _ h=>by omega⟩
  case round=>
   obtain⟨k,X,rfl,F,u,b⟩:=hrel;have y:=zb b;have J:=zb u;have d:=zb F;by_cases r:k<ss.length
   ·have Q:(k:Int)<(ss.length:Int):=by omega
    have D:=(Y0.1 ((uh H).below F)).1;obtain⟨A,rfl⟩:=uh K (by omega);have E:∀ j (hj:j<ss.length),wr.cell? ⟨A,j,none⟩=some (.string ss[j]):=fun j hj=>by
     rw[D.cellAt j (by simpa using hj),List.getElem?_map,yx hj];rfl
    have G:=zb E;have O:A<wr.heap.size:=yJ _ _ (E k r);have o:=E k r;have n:Hid (∀ wx,Bw wr wx->Calls prog 101 #[.string ss[k]] wx (Rb (.bool (zG ss[k].data.toList).isSome) wx)):=fun wx hx=>SI ss[k] wx ((uh I).below (zh (uh d) hx)) (hp ss[k] (yr r));clear u b F D E
    cases hpk:(zG ss[k].data.toList).isSome with
    | false=>
     rw[hpk]at n;have x:Hid (JA ss=false):=OC (by rintro⟨_,_,h⟩;rw[h k r]at hpk;cases hpk);generalize ss[k]=sk at *;clear hpk;go_wp2_with fail;refine (uh n _ (yH _ _)).mono ?_;rintro e N ⟨rfl,f⟩;have a:=zb (zh (uh d) f);clear f n o;go_wp2;go_ret;exact⟨by rw[uh x];rfl,uh a⟩
    | true=>
     rw[hpk]at n;have l:Hid (∀ j (h:j<ss.length),j<k+1->(zG ss[j].data.toList).isSome=true):=fun j h hj=>by
      by_cases e:j=k
      ·subst e;exact hpk
      ·exact uh y j h (by omega)
     clear hpk;by_cases L:k=0
     ·subst L;have m:Hid (∀ j (h:j+1<ss.length),j+1<0+1->ss[j].data.toList<ss[j+1].data.toList):=fun j _ hj=>by omega
      generalize ss[0]=sk at *;go_wp2_with fail;refine (uh n _ (yH _ _)).mono ?_;rintro e N ⟨rfl,f⟩;have a:=zb (zh (uh d) f);clear f n o;go_wp2;go_roundw
      case rel=>exact⟨1,by omega,by go_num,uh a,uh m,uh l⟩
      case measure=>simp[intOf];omega
     ·have P:(0:Int)<(k:Int):=by omega
      have q:wr.cell? ⟨A,k - 1,none⟩=some (.string ss[k - 1]):=uh G (k - 1) (by omega);have B:=zcg ss[k - 1] ss[k];have R:((k - 1:Nat):Int)=(k:Int) - 1:=by omega
      have S:k - 1<ss.length:=by omega
      by_cases g:ss[k - 1].data.toList<ss[k].data.toList
      ·rw[yj g]at B;have m:Hid (∀ j (h:j+1<ss.length),j+1<k+1->ss[j].data.toList<ss[j+1].data.toList):=fun j h hj=>by
        by_cases e:j+1=k
        ·subst e;exact g
        ·exact uh J j h (by omega)
       clear g;generalize ss[k]=sk at *;generalize ss[k - 1]=U at *;go_wp2_with fail;refine (uh n _ (yH _ _)).mono ?_;rintro e N ⟨rfl,f⟩;have a:=zb (zh (uh d) f);have z:=(f.cell (p:=⟨A,k - 1,none⟩) O).trans q;clear f n o q;go_wp2;go_roundw
       case rel=>exact⟨k+1,by omega,by go_num,uh a,uh m,uh l⟩
       case measure=>simp[intOf];omega
      ·rw[yk g]at B;have x:Hid (JA ss=false):=OC (by
        rintro⟨_,h,_⟩;have:=h (k - 1) (by omega);simp only[show k - 1+1=k by omega]at this;exact g this)
       clear g;generalize ss[k]=sk at *;generalize ss[k - 1]=U at *;go_wp2_with fail;refine (uh n _ (yH _ _)).mono ?_;rintro e N ⟨rfl,f⟩;have a:=zb (zh (uh d) f);have z:=(f.cell (p:=⟨A,k - 1,none⟩) O).trans q;clear f n o q;go_wp2;go_ret;exact⟨by rw[uh x];rfl,uh a⟩
   ·have x:Hid (JA ss=true):=SE.2 ⟨by omega,fun j h=>u j h (by omega),fun j h=>b j h (by omega)⟩;clear u b F;go_wp2;go_ret;exact⟨by rw[uh x];rfl,uh d⟩
theorem zci(no:Int)(w:Wo):
  Calls prog 54 #[.pointer none,.int .i64 no] w fun e w'=>e= .returned (.bool (decide (0<=no) && decide (no<=1000000)))/\Bw w w':=by
 by_cases a:0<=no
 ·have b:decide (0<=no)=true:=yj a;go_in;go_wp2;go_ret;exact⟨by simp[a],yH _ _⟩
 ·have b:decide (0<=no)=false:=yk a;go_in;go_wp2;go_ret;exact⟨by simp,yH _ _⟩
theorem zcj(b:Nat)(n no:Int)(w:Wo)(hc:w.cell? ⟨b,0,none⟩=some (.int .i64 n))(h0:0<=n)(h1:n<=2000000):
  Calls prog 54 #[.pointer (some ⟨b,0,none⟩),.int .i64 no] w fun e w'=>e= .returned (.bool (no ==n+1))/\Bw w w':=by
 go_in;go_wp2;go_ret;exact⟨rfl,yH _ _⟩
end Go.Proofs.YtekpghcckdjnhaaGreatDoor
