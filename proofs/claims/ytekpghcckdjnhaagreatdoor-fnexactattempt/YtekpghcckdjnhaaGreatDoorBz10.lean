import Derived.Test.YtekpghcckdjnhaaGreatDoorBz8
import Derived.Test.YtekpghcckdjnhaaGreatDoorBz9
set_option maxRecDepth 100000
set_option maxHeartbeats 8000000
namespace Go.Proofs.YtekpghcckdjnhaaGreatDoor
open Go.RowKit Go.Proofs.Tryz
theorem Wd{vs:List zl}:q9 vs=true↔∃ h:0<vs.length,vs.length<=8/\0<=vs[0].no/\vs[0].no<=1000000/\∀ j (hj:j<vs.length),qN vs[0].no j vs[j]=true:=by
 cases vs with
 | nil=>simp[q9]
 | cons m r=>
  simp only[q9,Bool.and_eq_true,decide_eq_true_eq,CN];constructor
  ·rintro⟨⟨⟨a,b⟩,d⟩,f⟩;exact⟨by simp,a,b,d,fun j hj=>by have:=f j hj;rwa [Nat.zero_add]at this⟩
  ·rintro⟨_,a,b,d,f⟩;exact⟨⟨⟨a,b⟩,d⟩,fun j hj=>by rw[Nat.zero_add];exact f j hj⟩
theorem W8{vs:List zl}(h:¬ ∃ h:0<vs.length,vs.length<=8/\0<=vs[0].no/\vs[0].no<=1000000/\∀ j (hj:j<vs.length),qN vs[0].no j vs[j]=true):q9 vs=false:=by
 rw[← Bool.not_eq_true,Wd];exact h
theorem EO{l:List (List UInt8)}(h:∀ j (hj:j+1<l.length),l[j]<l[j+1]):Jw l:=by
 unfold Jw;rw[List.pairwise_iff_getElem];intro i j b hj a;induction j with
 | zero=>omega
 | succ j ih=>
  by_cases e:i=j
  ·subst e;exact h i hj
  ·exact List.lt_trans (ih (by omega) (by omega)) (h j hj)
theorem SE{ss:List Bs}:JA ss=true↔ss.length<=1000/\(∀ j (hj:j+1<ss.length),ss[j].data.toList<ss[j+1].data.toList)/\∀ j (hj:j<ss.length),(zG ss[j].data.toList).isSome=true:=by
 unfold JA;simp only[Bool.and_eq_true,decide_eq_true_eq,List.all_eq_true,zgE,and_assoc];refine and_congr_right fun _=>and_congr ⟨fun h j hj=>?_,fun h=>EO fun j hj=>?_⟩ ⟨fun h j hj=>h _ (yr hj),fun h x hx=>?_⟩
 ·have:=List.pairwise_iff_getElem.1 h j (j+1) (by rw[GU];omega) (by rw[GU];omega) (by omega)
  rwa [F4,F4]at this<;>omega
 ·rw[GU]at hj;rw[F4 (by omega),F4 hj];exact h j hj
 ·obtain⟨j,hj,rfl⟩:=yX.1 hx;exact h j hj
theorem OC{ss:List Bs}(h:¬ (ss.length<=1000/\(∀ j (hj:j+1<ss.length),ss[j].data.toList<ss[j+1].data.toList)/\∀ j (hj:j<ss.length),(zG ss[j].data.toList).isSome=true)):JA ss=false:=by
 rw[← Bool.not_eq_true,SE];exact h
theorem Xt{n0:Int}{i:Nat}{m:zl}:qN n0 i m=true↔m.no=n0+i/\Z6 m.doc=true/\JA m.touched=true:=by
 unfold qN;simp only[Bool.and_eq_true,yC,and_assoc]
theorem EP{ss:List Bs}{s:Bs}(h:s∈ss):s.size<=qh ss:=by
 unfold qh;induction ss with
 | nil=>cases h
 | cons a r ih=>
  rw[yi,yL];rcases List.mem_cons.1 h with rfl | h
  ·omega
  ·have:=ih h;omega
theorem Xu{vs:List zl}(hs:ZG vs<=1048576)(k:Nat)(hk:k<vs.length):vs[k].doc.size<=1048576/\(∀ s∈vs[k].touched,s.size<=1048576)/\vs[k].touched.length<=1048576:=by
 have b:=V9 ZZ vs k vs[k] (yx hk);have a:=V8 (vs.map ZZ) (k+1);rw[← List.map_take]at a;unfold ZG at hs;have d:ZZ vs[k]=vs[k].doc.size+(vs[k].touched.length+qh vs[k].touched):=rfl;exact⟨by omega,fun s hm=>by have:=EP hm;omega,by omega⟩
theorem EQ(p:Value)(vs:List zl)(bl:List Nat)(w:Wo)(h:zk zT w p vs bl)(hs:ZG vs<=1048576):
  Calls prog 21 #[.agg #[p]] w fun e w'=>e= .returned (.bool (q9 vs))/\Bw w w':=by
 obtain⟨M,l,rfl,V,L⟩:=h.form;have T:=h.len;unfold maxLen at T;have R:=zu w (.cells #[.slice M vs.length l] 35);have kA:=yG w (.cells #[.slice M vs.length l] 35);have zA:(w.alloc (.cells #[.slice M vs.length l] 35)).heap.size=w.heap.size+1:=by simp
 have O:=zb zA;have Z:=zb (h.below R);have E:Hid (∀ wx,Below (w.heap.size+1) (w.alloc (.cells #[.slice M vs.length l] 35)) wx->wx.cell? ⟨w.heap.size,0,none⟩=some (.slice M vs.length l)):=fun wx hx=>yF ((hx.block w.heap.size (by omega)).trans kA) 0;have A:=zb R;have Y:=zb (Xu hs);clear V h hs kA zA R;by_cases u:vs.length<1
 ·have t1:decide ((vs.length:Int)<1)=true:=yj (by omega);have r:Hid (q9 vs=false):=W8 (by rintro⟨h,_⟩;omega);clear u;go_in;go_wp2;go_ret;exact⟨by rw[uh r];rfl,uh A⟩
 ·have t1:decide ((vs.length:Int)<1)=false:=yk (by omega);by_cases K:8<vs.length
  ·have t8:decide ((8:Int)<(vs.length:Int))=true:=yj (by omega);have r:Hid (q9 vs=false):=W8 (by rintro⟨_,h,_⟩;omega);clear K u;go_in;go_wp2;go_ret;exact⟨by rw[uh r];rfl,uh A⟩
  ·have t8:decide ((8:Int)<(vs.length:Int))=false:=yk (by omega);have f:0<vs.length:=by omega
   obtain⟨g,rfl⟩:=L f;obtain⟨ws0,ib0,S,H,_⟩:=(uh Z).at (yx f);obtain⟨q0,rfl,_⟩:=S;have c0:(w.alloc (.cells #[.slice (some ⟨g,0,none⟩) vs.length l] 35)).cell? ⟨g,0,none⟩=some (.int .i64 vs[0].no):=by simpa [zT]using (H 0 _ rfl).1
   have d0:=uh E _ (yH _ _);clear H L;have U:(0:Int)<(vs.length:Int):=by omega
   obtain⟨b,y⟩:∃ b,vs[0].no=b:=⟨_,rfl⟩;rw[y]at c0;have m:=zb y;clear y;by_cases d:b<0
   ·have X:decide (b<0)=true:=yj d;have r:Hid (q9 vs=false):=W8 (by rintro⟨_,_,h,_⟩;rw[uh m]at h;omega);clear d;go_in;go_wp2;go_ret;exact⟨by rw[uh r];rfl,uh A⟩
   ·have X:decide (b<0)=false:=yk d;by_cases n:1000000<b
    ·have W:decide (1000000<b)=true:=yj n;have r:Hid (q9 vs=false):=W8 (by rintro⟨_,_,_,h,_⟩;rw[uh m]at h;omega);clear d n;go_in;go_wp2;go_ret;exact⟨by rw[uh r];rfl,uh A⟩
    ·have W:decide (1000000<b)=false:=yk n;have v:0<=b:=by omega
     have x:b<=1000000:=by omega
     have I:vs.length<=8:=by omega
     have HV:Hid (∀ (i:Nat) (hi:i<vs.length) (wx:Wo),Below (w.alloc (.cells #[.slice (some ⟨g,0,none⟩) vs.length l] 35)).heap.size (w.alloc (.cells #[.slice (some ⟨g,0,none⟩) vs.length l] 35)) wx->Calls prog 45 #[.agg #[.slice (some ⟨g,0,none⟩) vs.length l],.int .i64 (i:Int)] wx (Rb (.bool (qN b i vs[i])) wx)):=fun i hi wx hx=>zgG _ vs bl i wx ((uh Z).below hx) hi I b (uh m) v x (uh Y i hi).1 (uh Y i hi).2.1;have F:Hid (∀ z:Bool,(z=true↔∀ j (s:j<vs.length),qN b j vs[j]=true)->q9 vs=z):=fun z hz=>by
      have e:=uh m;rw[Bool.eq_iff_iff,Wd,hz];constructor
      ·rintro⟨_,_,_,_,h⟩ j s;rw[e]at h;exact h j s
      ·intro h;exact⟨f,I,by rw[e];exact v,by rw[e];exact x,fun j s=>by rw[e];exact h j s⟩
     clear d n u K v x;go_in;go_wp2;clear c0 d0;generalize (w.alloc (.cells #[.slice (some ⟨g,0,none⟩) vs.length l] 35))=w1 at *;go_loopw [4] (fun kk wr=>∃ k:Nat,k<=vs.length/\kk= .int .i64 k/\Bw w1 wr/\∀ j (h:j<vs.length),j<k->qN b j vs[j]=true) (fun kk _=>vs.length - (intOf kk).toNat)
     case atStart=>exact⟨0,yt _,rfl,yH _ _,fun j _ h=>by omega⟩
     case round=>
      obtain⟨k,hk,rfl,C,a⟩:=hrel;have r0:=uh E wr (by rw[← uh O];exact C);have D:=zb a;have q:=zb C;by_cases J:k<vs.length
      ·have B:=zb (uh HV k J wr C)
       cases hpk:qN b k vs[k]with
       | true=>
        rw[hpk]at B;have N:Hid (∀ j (h:j<vs.length),j<k+1->qN b j vs[j]=true):=fun j h s=>by
         by_cases e:j=k
         ·subst e;exact hpk
         ·exact uh D j h (by omega)
        clear a C hpk;go_wp2_with fail;refine (uh B).mono ?_;rintro e w5 ⟨rfl,G⟩;have o:=zb (zh (uh q) G);clear B G r0;go_wp2;go_roundw
        case rel=>exact⟨k+1,by omega,by go_num,uh o,uh N⟩
        case measure=>simp[intOf];omega
       | false=>
        rw[hpk]at B;have P:Hid (q9 vs=false):=uh F false ⟨fun h=>(by cases h),fun h=>by rw[h k J]at hpk;cases hpk⟩;clear a C hpk;go_wp2_with fail;refine (uh B).mono ?_;rintro e w5 ⟨rfl,G⟩;have o:=zb (zh (uh A) (zh (uh q) G));clear B G r0;go_wp2;go_ret;exact⟨by rw[uh P];rfl,uh o⟩
      ·have Q:Hid (q9 vs=true):=uh F true ⟨fun _ j s=>a j s (by omega),fun _=>rfl⟩;clear a C;go_wp2;go_ret;exact⟨by rw[uh Q];rfl,zh (uh A) (uh q)⟩
end Go.Proofs.YtekpghcckdjnhaaGreatDoor
