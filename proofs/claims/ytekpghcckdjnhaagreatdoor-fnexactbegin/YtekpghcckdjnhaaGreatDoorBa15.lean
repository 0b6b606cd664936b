import Derived.Test.YtekpghcckdjnhaaGreatDoorBa13
import Derived.Test.YtekpghcckdjnhaaGreatDoorBa14
set_option maxRecDepth 100000
set_option maxHeartbeats 8000000
namespace Go.Proofs.YtekpghcckdjnhaaGreatDoor
open Go.RowKit Go.Proofs.Tryz
theorem zdx {vs:List Ver} : zaS vs=true↔∃ h:0 < vs.length,vs.length<=8/\0<=vs[0].no/\vs[0].no<=1000000/\∀ j (hj:j < vs.length),zcl vs[0].no j vs[j]=true:=by
 cases vs with
 | nil=>simp[zaS]
 | cons m r=>
  simp only[zaS,Bool.and_eq_true,decide_eq_true_eq,znp]
  constructor
  ·rintro⟨⟨⟨h1,h2⟩,h3⟩,h4⟩
   exact⟨by simp,h1,h2,h3,fun j hj=>by have:=h4 j hj; rwa [Nat.zero_add] at this⟩
  ·rintro⟨_,h1,h2,h3,h4⟩
   exact⟨⟨⟨h1,h2⟩,h3⟩,fun j hj=>by rw[Nat.zero_add]; exact h4 j hj⟩
theorem zcB {vs:List Ver} (h:¬ ∃ h:0 < vs.length,vs.length<=8/\0<=vs[0].no/\vs[0].no<=1000000/\∀ j (hj:j < vs.length),zcl vs[0].no j vs[j]=true) : zaS vs=false:=by
 rw[← Bool.not_eq_true,zdx]; exact h
theorem zwa {l:List (List UInt8)} (h:∀ j (hj:j+1 < l.length),l[j] < l[j+1]) : UpS l:=by
 unfold UpS
 rw[List.pairwise_iff_getElem]
 intro i j hi hj hij
 induction j with
 | zero=>omega
 | succ j ih=>
  by_cases e:i=j
  ·subst e; exact h i hj
  ·exact List.lt_trans (ih (by omega) (by omega)) (h j hj)
theorem zg1 {ss:List ByteArray} : zbw ss=true↔ss.length<=1000/\(∀ j (hj:j+1 < ss.length),ss[j].data.toList < ss[j+1].data.toList)/\∀ j (hj:j < ss.length),(zar ss[j].data.toList).isSome=true:=by
 unfold zbw
 simp only[Bool.and_eq_true,decide_eq_true_eq,List.all_eq_true,zuX,and_assoc]
 refine and_congr_right fun _=>and_congr ⟨fun h j hj=>?_,fun h=>zwa fun j hj=>?_⟩ ⟨fun h j hj=>h _ (yr hj),fun h x hx=>?_⟩
 ·have:=List.pairwise_iff_getElem.1 h j (j+1) (by rw[zgl]; omega) (by rw[zgl]; omega) (by omega)
  rwa [zsp,zsp] at this <;> omega
 ·rw[zgl] at hj
  rw[zsp (by omega),zsp hj]
  exact h j hj
 ·obtain⟨j,hj,rfl⟩:=List.mem_iff_getElem.1 hx
  exact h j hj
theorem zfW {ss:List ByteArray} (h:¬ (ss.length<=1000/\(∀ j (hj:j+1 < ss.length),ss[j].data.toList < ss[j+1].data.toList)/\∀ j (hj:j < ss.length),(zar ss[j].data.toList).isSome=true)) : zbw ss=false:=by
 rw[← Bool.not_eq_true,zg1]; exact h
theorem zfc {n0:Int} {i:Nat} {m:Ver} : zcl n0 i m=true↔m.no=n0+i/\zbp m.doc=true/\zbw m.touched=true:=by
 unfold zcl
 simp only[Bool.and_eq_true,yC,and_assoc]
theorem zuY {ss:List ByteArray} {s:ByteArray} (h:s∈ss) : s.size<=tot ss:=by
 unfold tot
 induction ss with
 | nil=>cases h
 | cons a r ih=>
  rw[yi,yL]
  rcases List.mem_cons.1 h with rfl | h
  ·omega
  ·have:=ih h; omega
theorem zpU {vs:List Ver} (hs:za2 vs<=1048576) (k:Nat) (hk:k < vs.length) : vs[k].doc.size<=1048576/\(∀ s∈vs[k].touched,s.size<=1048576)/\vs[k].touched.length<=1048576:=by
 have h1:=zbU zbY vs k vs[k] (yx hk)
 have h2:=zcH (vs.map zbY) (k+1)
 rw[← List.map_take] at h2
 unfold za2 at hs
 have h3:zbY vs[k]=vs[k].doc.size+(vs[k].touched.length+tot vs[k].touched):=rfl
 exact⟨by omega,fun s hm=>by have:=zuY hm; omega,by omega⟩
theorem zie (p:Value) (vs:List Ver) (bl:List Nat) (w:World) (h:zbt zeS w p vs bl) (hs:za2 vs<=1048576) :
  Calls prog 21 #[.agg #[p]] w fun e w'=>e = .returned (.bool (zaS vs))/\Below w.heap.size w w':=by
 obtain⟨xa,xc,rfl,hxf,hxa⟩:=h.form
 have hln:=h.len
 unfold maxLen at hln
 have hA:=zag w (.cells #[.slice xa vs.length xc] 35)
 have kA:=yG w (.cells #[.slice xa vs.length xc] 35)
 have zA:(w.alloc (.cells #[.slice xa vs.length xc] 35)).heap.size=w.heap.size+1:=by simp
 have HZA:=zab zA
 have HO:=zab (h.below hA)
 have HKA:Hid (∀ wx,Below (w.heap.size+1) (w.alloc (.cells #[.slice xa vs.length xc] 35)) wx->wx.cell? ⟨w.heap.size,0,none⟩=some (.slice xa vs.length xc)):=fun wx hx=>yF ((hx.block w.heap.size (by omega)).trans kA) 0
 have HA:=zab hA
 have HI:=zab (zpU hs)
 clear hxf h hs kA zA hA
 by_cases hn1:vs.length < 1
 ·have t1:decide ((vs.length:Int) < 1)=true:=yj (by omega)
  have HZ:Hid (zaS vs=false):=zcB (by rintro⟨h,_⟩; omega)
  clear hn1
  go_enter func21,ntmps21
  go_wp2
  go_ret
  exact⟨by rw[uh HZ]; rfl,uh HA⟩
 ·have t1:decide ((vs.length:Int) < 1)=false:=yk (by omega)
  by_cases hn8:8 < vs.length
  ·have t8:decide ((8:Int) < (vs.length:Int))=true:=yj (by omega)
   have HZ:Hid (zaS vs=false):=zcB (by rintro⟨_,h,_⟩; omega)
   clear hn8 hn1
   go_enter func21,ntmps21
   go_wp2
   go_ret
   exact⟨by rw[uh HZ]; rfl,uh HA⟩
  ·have t8:decide ((8:Int) < (vs.length:Int))=false:=yk (by omega)
   have hpos:0 < vs.length:=by omega
   obtain⟨g,rfl⟩:=hxa hpos
   obtain⟨ws0,ib0,hE0,hc0,_⟩:=(uh HO).at (yx hpos)
   obtain⟨q0,rfl,_⟩:=hE0
   have c0:(w.alloc (.cells #[.slice (some ⟨g,0,none⟩) vs.length xc] 35)).cell? ⟨g,0,none⟩=some (.int .i64 vs[0].no):=by simpa [zeS] using (hc0 0 _ rfl).1
   have d0:=uh HKA _ (yH _ _)
   clear hc0 hxa
   have hposI:(0:Int) < (vs.length:Int):=by omega
   obtain⟨z0,hz0⟩ : ∃ z0,vs[0].no=z0:=⟨_,rfl⟩
   rw[hz0] at c0
   have HZ0:=zab hz0
   clear hz0
   by_cases hlo:z0 < 0
   ·have tlo:decide (z0 < 0)=true:=yj hlo
    have HZ:Hid (zaS vs=false):=zcB (by rintro⟨_,_,h,_⟩; rw[uh HZ0] at h; omega)
    clear hlo
    go_enter func21,ntmps21
    go_wp2
    go_ret
    exact⟨by rw[uh HZ]; rfl,uh HA⟩
   ·have tlo:decide (z0 < 0)=false:=yk hlo
    by_cases hhi:1000000 < z0
    ·have thi:decide (1000000 < z0)=true:=yj hhi
     have HZ:Hid (zaS vs=false):=zcB (by rintro⟨_,_,_,h,_⟩; rw[uh HZ0] at h; omega)
     clear hlo hhi
     go_enter func21,ntmps21
     go_wp2
     go_ret
     exact⟨by rw[uh HZ]; rfl,uh HA⟩
    ·have thi:decide (1000000 < z0)=false:=yk hhi
     have hr0:0<=z0:=by omega
     have hr1:z0<=1000000:=by omega
     have hl8:vs.length<=8:=by omega
     have HV:Hid (∀ (i:Nat) (hi:i < vs.length) (wx:World),Below (w.alloc (.cells #[.slice (some ⟨g,0,none⟩) vs.length xc] 35)).heap.size (w.alloc (.cells #[.slice (some ⟨g,0,none⟩) vs.length xc] 35)) wx->Calls prog 45 #[.agg #[.slice (some ⟨g,0,none⟩) vs.length xc],.int .i64 (i:Int)] wx fun e w'=>e = .returned (.bool (zcl z0 i vs[i]))/\Below wx.heap.size wx w'):=fun i hi wx hx=>zoB _ vs bl i wx ((uh HO).below hx) hi hl8 z0 (uh HZ0) hr0 hr1 (uh HI i hi).1 (uh HI i hi).2.1
     have HZZ:Hid (∀ z:Bool,(z=true↔∀ j (hj:j < vs.length),zcl z0 j vs[j]=true)->zaS vs=z):=fun z hz=>by
      have e:=uh HZ0
      rw[Bool.eq_iff_iff,zdx,hz]
      constructor
      ·rintro⟨_,_,_,_,h⟩ j hj; rw[e] at h; exact h j hj
      ·intro h; exact⟨hpos,hl8,by rw[e]; exact hr0,by rw[e]; exact hr1,fun j hj=>by rw[e]; exact h j hj⟩
     clear hlo hhi hn1 hn8 hr0 hr1
     go_enter func21,ntmps21
     go_wp2
     clear c0 d0
     generalize (w.alloc (.cells #[.slice (some ⟨g,0,none⟩) vs.length xc] 35))=w1 at *
     go_loopw [4] (fun kk wr=>∃ k:Nat,k<=vs.length/\kk = .int .i64 k/\Below w1.heap.size w1 wr/\∀ j (h:j < vs.length),j < k->zcl z0 j vs[j]=true) (fun kk _=>vs.length - (intOf kk).toNat)
     case atStart=>exact⟨0,yt _,rfl,yH _ _,fun j _ h=>by omega⟩
     case round=>
      obtain⟨k,hk,rfl,hb,hall⟩:=hrel
      have r0:=uh HKA wr (by rw[← uh HZA]; exact hb)
      have HALL:=zab hall
      have HBR:=zab hb
      by_cases hlt:k < vs.length
      ·have HP:=zab (uh HV k hlt wr hb)
       cases hpk:zcl z0 k vs[k] with
       | true=>
        rw[hpk] at HP
        have HA2:Hid (∀ j (h:j < vs.length),j < k+1->zcl z0 j vs[j]=true):=fun j h hj=>by
         by_cases e:j=k
         ·subst e; exact hpk
         ·exact uh HALL j h (by omega)
        clear hall hb hpk
        go_wp2_with fail
        refine (uh HP).mono ?_
        rintro e w5 ⟨rfl,b5⟩
        have HB5:=zab (zaa (uh HBR) b5)
        clear HP b5 r0
        go_wp2
        go_roundw
        case rel=>exact⟨k+1,by omega,by go_num,uh HB5,uh HA2⟩
        case measure=>simp[intOf]; omega
       | false=>
        rw[hpk] at HP
        have HZF:Hid (zaS vs=false):=uh HZZ false ⟨fun h=>(by cases h),fun h=>by rw[h k hlt] at hpk; cases hpk⟩
        clear hall hb hpk
        go_wp2_with fail
        refine (uh HP).mono ?_
        rintro e w5 ⟨rfl,b5⟩
        have HB5:=zab (zaa (uh HA) (zaa (uh HBR) b5))
        clear HP b5 r0
        go_wp2
        go_ret
        exact⟨by rw[uh HZF]; rfl,uh HB5⟩
      ·have HZT:Hid (zaS vs=true):=uh HZZ true ⟨fun _ j hj=>hall j hj (by omega),fun _=>rfl⟩
       clear hall hb
       go_wp2
       go_ret
       exact⟨by rw[uh HZT]; rfl,zaa (uh HA) (uh HBR)⟩
end Go.Proofs.YtekpghcckdjnhaaGreatDoor
