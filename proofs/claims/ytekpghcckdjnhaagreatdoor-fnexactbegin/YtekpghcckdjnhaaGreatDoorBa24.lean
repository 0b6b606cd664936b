import Derived.Test.YtekpghcckdjnhaaGreatDoorBa20
import Derived.Test.YtekpghcckdjnhaaGreatDoorBa23
set_option maxRecDepth 100000
set_option maxHeartbeats 8000000
namespace Go.Proofs.YtekpghcckdjnhaaGreatDoor
open Go.RowKit Go.Proofs.Tryz
abbrev zf4 (m:POp) : Array Value:=#[.int .i64 m.kind,.string m.path,.string m.src,.string m.val]
def op0:POp:=⟨0,⟨#[]⟩,⟨#[]⟩,⟨#[]⟩⟩
def zfi (w:World) (g:Nat) (m:POp) : Prop:=w.heap[g]?=some (.cells (zf4 m) 95 (0,0))
theorem zfi.lt {w:World} {g:Nat} {m:POp} (h:zfi w g m) : g < w.heap.size:=(yB.1 h).1
theorem zfi.below {w w':World} {g:Nat} {m:POp} (h:zfi w g m) (hb:Below w.heap.size w w') : zfi w' g m:=(hb.block g h.lt).trans h
theorem zfi.c {w:World} {g:Nat} {m:POp} (h:zfi w g m) : w.cell? ⟨g,0,none⟩=some (.int .i64 m.kind)/\w.cell? ⟨g,1,none⟩=some (.string m.path)/\w.cell? ⟨g,2,none⟩=some (.string m.src)/\w.cell? ⟨g,3,none⟩=some (.string m.val):=⟨yF h 0,yF h 1,yF h 2,yF h 3⟩
theorem zfi.fz {w:World} {g:Nat} {m:POp} (h:zfi w g m) (j:Nat) : w.frozen? ⟨g,j,none⟩=false:=yI h j
theorem zfi.s0 {w:World} {g:Nat} {m:POp} (h:zfi w g m) (z:Int) : zfi (w.setCell ⟨g,0,none⟩ (.int .i64 z)) g ⟨z,m.path,m.src,m.val⟩:=heap_setCell_same w g 0 _ _ _ h
theorem zfi.s1 {w:World} {g:Nat} {m:POp} (h:zfi w g m) (z:ByteArray) : zfi (w.setCell ⟨g,1,none⟩ (.string z)) g ⟨m.kind,z,m.src,m.val⟩:=heap_setCell_same w g 1 _ _ _ h
theorem zfi.s2 {w:World} {g:Nat} {m:POp} (h:zfi w g m) (z:ByteArray) : zfi (w.setCell ⟨g,2,none⟩ (.string z)) g ⟨m.kind,m.path,z,m.val⟩:=heap_setCell_same w g 2 _ _ _ h
theorem zfi.s3 {w:World} {g:Nat} {m:POp} (h:zfi w g m) (z:ByteArray) : zfi (w.setCell ⟨g,3,none⟩ (.string z)) g ⟨m.kind,m.path,m.src,z⟩:=heap_setCell_same w g 3 _ _ _ h
def DcP (v:JV) (w:World) (e:Ending) (w':World) : Prop:=Below w.heap.size w w'/\∃ m:POp,e = .returned (.tuple #[.agg (zf4 m),.bool (zaT v)])/\(zaT v=true->m=zdU v)
theorem zqm {u:JV} (h:okV u) (h0:0 < (zac (ct u)).size) : ((((zac (ct u))[0]).toNat:Int) != 123) = !(kd u == 6):=by
 obtain⟨c,r,e,f⟩:=zlB h
 have hb:((zac (ct u))[0]).toNat=c.toNat:=by
  rw[← zas _ 0 h0,e]
  exact (zb0 (c:=c) (r:=r)).2
 rw[hb,← f]
 unfold fb
 by_cases h1:c.toNat=123
 ·rw[h1]; rfl
 ·have a1:((c.toNat:Int) != 123)=true:=by simp; omega
  rw[a1]
  symm
  rw[Bool.not_eq_true',yd]
  repeat (first | (split; omega) | split)
  all_goals omega
theorem znB {v:JV} (hok:okV v) (htw:twV v=false) (key:List UInt8) : ((zbm v key).getD []).length<=(ct v).length:=by
 unfold zbm
 cases h:zal v key with
 | none=>exact yt _
 | some u=>
  obtain⟨_,_,h3,_⟩:=zbG h hok htw
  show ((zsc u).getD []).length<=_
  cases u with
  | str l=>
   have h4:=zcO l
   have h5:ct (.str l)=quoted l:=rfl
   rw[h5] at h3
   show l.length<=_
   omega
  | _=>exact yt _
theorem zmk (v:JV) (hok:okV v) (htw:twV v=false) (hl:(ct v).length<=1000000) (hg:∀ u,zal v zb3=some u->zbp (zac (ct u))=true) (w:World) :
  Calls prog 48 #[.string (zac (ct v))] w (DcP v w):=by
 have h0:=zp5 hok
 have h0I:(0:Int) < ((zac (ct v)).size:Int):=by omega
 have hfo:=zqm hok h0
 have kR:=yG w (.cells #[.int .i64 0,.string ⟨#[]⟩,.string ⟨#[]⟩,.string ⟨#[]⟩] 95)
 have hR:=zag w (.cells #[.int .i64 0,.string ⟨#[]⟩,.string ⟨#[]⟩,.string ⟨#[]⟩] 95)
 by_cases h6:kd v=6
 ·obtain⟨m,rfl⟩ : ∃ m,v = .obj m:=by cases v <;> first | exact⟨_,rfl⟩ | (simp[kd] at h6)
  rw[show (!(kd (.obj m) == 6))=false from rfl] at hfo
  have HPT:Hid (∀ w,Calls prog 47 #[.string (zac (ct (.obj m)))] w fun e w'=>∃ r,e = .returned r/\PR w' w.heap.size r (zae (.obj m))/\Below w.heap.size w w'):=fun w=>zch (.obj m) hok w hl
  have HMB:Hid (∀ (key:List UInt8) {B:Nat} (pv:Value) (w:World),PR w B pv (zae (.obj m))->Calls prog 87 #[pv,.string (zac key)] w fun e w'=>e = .returned (.tuple #[.string (zac ((zbm (.obj m) key).getD [])),.bool (zbm (.obj m) key).isSome])/\Below w.heap.size w w'):=fun key B pv w h=>zmd m hok htw hl key pv w h
  have HRR:=zab hR
  have HKR:=zab kR
  clear hR kR h6
  go_enter func48,ntmps48
  go_wp2_with fail
  generalize hwR:(w.alloc (.cells #[.int .i64 0,.string ⟨#[]⟩,.string ⟨#[]⟩,.string ⟨#[]⟩] 95))=wR at *
  have hzR:wR.heap.size=w.heap.size+1:=by rw[← hwR]; simp
  have HZR:=zab hzR
  clear hwR hzR
  refine (uh HPT _).mono ?_
  rintro e w1 ⟨pv,rfl,p1,b1⟩
  obtain⟨xa,xc,rfl⟩ : ∃ xa xc,pv = .slice xa (zae (.obj m)).length xc:=by
   rcases p1.2 with ⟨hv,h0⟩ | ⟨g,cap,cur,hv,_⟩
   ·exact⟨none,0,by rw[hv,h0]⟩
   ·exact⟨_,_,hv⟩
  have HP1:=zab p1
  have HM2:=zab (uh HMB kOp _ w1 p1)
  have HB1:=zab b1
  clear HPT p1 b1 hfo
  go_wp2_with fail
  refine (uh HM2).mono ?_
  rintro e w2 ⟨rfl,b2⟩
  have HB2:=zab (zaa (uh HB1) b2)
  have HP2:=zab ((uh HP1).below b2)
  have hO:=zag w2 (.cells #[.int .i64 0,.string ⟨#[]⟩,.string ⟨#[]⟩,.string ⟨#[]⟩] 95)
  have kO:=yG w2 (.cells #[.int .i64 0,.string ⟨#[]⟩,.string ⟨#[]⟩,.string ⟨#[]⟩] 95)
  have zO:(w2.alloc (.cells #[.int .i64 0,.string ⟨#[]⟩,.string ⟨#[]⟩,.string ⟨#[]⟩] 95)).heap.size=w2.heap.size+1:=by simp
  have HO:=zab hO
  have HKO:=zab kO
  have HZO:=zab zO
  have hKr:0<=zer (.obj m)/\zer (.obj m)<=6:=by
   unfold zer
   split
   ·exact zd1 _
   ·omega
  have HKD:Hid ((zbm (.obj m) kOp).isSome=true->∃ t,zac ((zbm (.obj m) kOp).getD [])=zac t/\zer (.obj m)=zaM t):=fun h=>by
   obtain⟨t,ht⟩:=Option.isSome_iff_exists.1 h
   exact⟨t,by rw[ht]; rfl,by unfold zer; rw[ht]⟩
  have HKN:Hid ((zbm (.obj m) kOp).isSome=false->zer (.obj m)=0):=fun h=>by
   have ht:zbm (.obj m) kOp=none:=by simpa using h
   unfold zer; rw[ht]
  clear HM2 b2 HB1 HP1 hO kO zO
  generalize zac ((zbm (.obj m) kOp).getD [])=wd0 at *
  generalize (zbm (.obj m) kOp).isSome=ok0 at *
  obtain⟨K,hK⟩ : ∃ K,zer (.obj m)=K:=⟨_,rfl⟩
  have HK:=zab hK
  rw[hK] at HKD HKN hKr
  obtain⟨hK0,hK6⟩:=hKr
  clear hK
  go_wp2
  go_loopw [8] (fun kk wr=>∃ k:Nat,1<=k/\k<=7/\kk = .int .i64 k/\zfi wr w2.heap.size ⟨if K < k then K else 0,⟨#[]⟩,⟨#[]⟩,⟨#[]⟩⟩/\Below w2.heap.size w2 wr) (fun kk _=>7 - (intOf kk).toNat)
  case atStart=>exact⟨1,by omega,by omega,rfl,by rw[show (if K < ((1:Nat) : Int) then K else 0)=0 by split <;> omega]; exact uh HKO,uh HO⟩
  case round=>
   obtain⟨k,hk1,hk7,rfl,hblk,hb⟩:=hrel
   have HBK:=zab hblk
   have HBR:=zab hb
   have hwz:=hb.size
   have hlt2:=hblk.lt
   have c0:wr.cell? ⟨w2.heap.size,0,none⟩=some (.int .i64 (if K < k then K else 0)):=hblk.c.1
   have fz:=hblk.fz 0
   clear hb hblk
   by_cases hk6:k<=6
   ·have hk6I:(k:Int)<=6:=by omega
    cases ok0 with
    | false=>
     have hK00:=uh HKN rfl
     have HST:Hid ((if K < ((k+1:Nat) : Int) then K else 0)=(if K < (k:Int) then K else 0)):=by show _=_; rw[hK00]; split <;> split <;> rfl
     clear hK00 c0 fz
     go_wp2
     go_roundw
     case rel=>exact⟨k+1,by omega,by omega,by go_num,by rw[uh HST]; exact uh HBK,uh HBR⟩
     case measure=>simp[intOf]; omega
    | true=>
     obtain⟨t,rfl,hKt⟩:=uh HKD rfl
     have HW:=zab (zpT (k:Int) wr)
     have hcmp:((zac (zcZ (k:Int))).toList == (zac t).toList)=((k:Int) == K):=by rw[zi0,hKt]; exact zg6 (by omega) (by omega)
     clear hKt
     by_cases hkK:(k:Int)=K
     ·have e1:((k:Int) == K)=true:=by rw[yC]; exact hkK
      rw[e1] at hcmp
      have HST:Hid ((if K < ((k+1:Nat) : Int) then K else 0)=(k:Int)):=by show _=_; rw[yg (by omega),hkK]
      have HBS:=zab ((uh HBK).s0 (k:Int))
      clear e1 hkK
      generalize zac (zcZ (k:Int))=wd at *
      generalize zac t=ts at *
      go_wp2_with fail
      refine (uh HW).mono ?_
      rintro e w3 ⟨rfl,rfl⟩
      clear HW
      go_wp2
      go_roundw
      case rel=>exact⟨k+1,by omega,by omega,by go_num,by rw[uh HST]; exact uh HBS,(uh HBR).setCell (p:=⟨w2.heap.size,0,none⟩) (ye _) _⟩
      case measure=>simp[intOf]; omega
     ·have e1:((k:Int) == K)=false:=by rw[yd]; exact hkK
      rw[e1] at hcmp
      have HST:Hid ((if K < ((k+1:Nat) : Int) then K else 0)=(if K < (k:Int) then K else 0)):=by show _=_; split <;> split <;> omega
      clear e1 hkK
      generalize zac (zcZ (k:Int))=wd at *
      generalize zac t=ts at *
      go_wp2_with fail
      refine (uh HW).mono ?_
      rintro e w3 ⟨rfl,rfl⟩
      clear HW
      go_wp2
      go_roundw
      case rel=>exact⟨k+1,by omega,by omega,by go_num,by rw[uh HST]; exact uh HBK,uh HBR⟩
      case measure=>simp[intOf]; omega
   ·have hk7':k=7:=by omega
    subst hk7'
    have e7:(if K < ((7:Nat) : Int) then K else 0)=K:=yg (by omega)
    rw[e7] at HBK c0
    have HM3:=zab (uh HMB zcp _ wr ((uh HP2).below (uh HBR)))
    have HRX:Hid (∀ wx,Below w2.heap.size w2 wx->zfi wx w.heap.size op0/\Below w.heap.size w wx):=fun wx hx=>by
     have hz:=(uh HB2).size
     have hzr:=uh HZR
     refine⟨(hx.block w.heap.size (by omega)).trans (((uh HB2).block w.heap.size (by omega)).trans (uh HKR)),?_⟩
     exact (uh HRR).trans (((uh HB2).mono (by omega)).trans (hx.mono (by omega)))
    have HDK:Hid (K=0->zaT (.obj m)=false):=fun h=>by unfold zaT; rw[uh HK,h]; rfl
    have HDP:Hid ((zbm (.obj m) zcp).isSome=false->zaT (.obj m)=false):=fun h=>by unfold zaT; rw[h]; simp
    have HPP:Hid ((zbm (.obj m) zcp).isSome=true->(zbm (.obj m) zcp).isSome=true):=id
    have HFN:Hid ((zbm (.obj m) zcp).isSome=true->K≠0->(zfN K=true->(zbm (.obj m) zcG).isSome=true)->(zc9 K=true->∃ u,zal (.obj m) zb3=some u/\zbp (zac (ct u))=true)->zdv (zdU (.obj m))=zaT (.obj m)):=fun h1 h2 h3 h4=>by
     have e:=uh HK
     exact zu2 (by rw[e]; exact h2) h1 (by rw[e]; exact h3) (by rw[e]; exact h4)
    have hplen:(zac ((zbm (.obj m) zcp).getD [])).size<=1000000:=by rw[zaf]; have:=znB hok htw zcp; omega
    have HPL:=zab hplen
    clear e7 hplen HPP
    obtain⟨pp,hpp⟩ : ∃ pp,zac ((zbm (.obj m) zcp).getD [])=pp:=⟨_,rfl⟩
    obtain⟨th,hth⟩ : ∃ th,(zbm (.obj m) zcp).isSome=th:=⟨_,rfl⟩
    rw[hpp,hth] at HM3
    rw[hth] at HDP HFN
    rw[hpp] at HPL
    have HPPE:=zab hpp
    have HTH:=zab hth
    clear hpp hth
    go_wp2_with fail
    refine (uh HM3).mono ?_
    rintro e w4 ⟨rfl,b4⟩
    have b24:=zaa (uh HBR) b4
    have o4:=(uh HBK).below b4
    have d0:=o4.c.1
    simp only at d0
    have f1:=o4.fz 1
    have HB4:=zab b24
    have HO4:=zab o4
    clear HM3 b4 b24 o4 c0 fz HBK HBR
    by_cases hKz:K=0
    ·have HDF:=zab (uh HDK hKz)
     obtain⟨hrb,hbw⟩:=uh HRX w4 (uh HB4)
     have r0:=hrb.c
     have rz:=hrb.fz
     have HRB:=zab hrb
     have HBW:=zab hbw
     subst hKz
     clear hrb hbw f1
     go_wp2
     refine bodyPost_ret (zam rfl _ _ w.heap.size 95 #[_,_,_,_] (0,0) _ _ rfl rfl (zat (uh HRB) [_,_,_,_] rfl) underlying95 rfl (by kernel_rfl)) rfl ?_
     exact⟨zah (uh HBW) (ye _) [_,_,_,_] 0,op0,by rw[uh HDF]; rfl,fun h=>by rw[uh HDF] at h; cases h⟩
    ·have tK:(K == 0)=false:=by rw[yd]; exact hKz
     cases th with
     | false=>
      have HDF:=zab (uh HDP rfl)
      obtain⟨hrb,hbw⟩:=uh HRX w4 (uh HB4)
      have r0:=hrb.c
      have rz:=hrb.fz
      have HRB:=zab hrb
      have HBW:=zab hbw
      clear hrb hbw f1
      go_wp2
      refine bodyPost_ret (zam rfl _ _ w.heap.size 95 #[_,_,_,_] (0,0) _ _ rfl rfl (zat (uh HRB) [_,_,_,_] rfl) underlying95 rfl (by kernel_rfl)) rfl ?_
      exact⟨zah (uh HBW) (ye _) [_,_,_,_] 0,op0,by rw[uh HDF]; rfl,fun h=>by rw[uh HDF] at h; cases h⟩
     | true=>
      have o5:=(uh HO4).s1 pp
      have HB5:=zab ((uh HB4).setCell (p:=⟨w2.heap.size,1,none⟩) (ye _) (.string pp))
      have HHF:=zab (zkt K (w4.setCell ⟨w2.heap.size,1,none⟩ (.string pp)))
      have HO5:=zab o5
      have g0:=o5.c.1
      simp only at g0
      have d1:=(uh HO4).c.2.1
      simp only at d1
      clear o5
      go_wp2_with fail
      generalize hw5:w4.setCell ⟨w2.heap.size,1,none⟩ (.string pp)=w5 at *
      clear hw5
      refine (uh HHF).mono ?_
      rintro e w5' ⟨rfl,rfl⟩
      have HDE:Hid (zdU (.obj m)=⟨K,pp,if zfN K then zac ((zbm (.obj m) zcG).getD []) else ⟨#[]⟩,if zc9 K then zac (((zal (.obj m) zb3).map ct).getD []) else ⟨#[]⟩⟩):=by
       show _=_
       unfold zdU
       rw[uh HK,uh HPPE]
      have HHV:=fun wx=>zks K wx
      have HHV2:=zab HHV
      clear HHF HHV d0 d1 f1
      cases hF:zfN K with
      | true=>
       have hV:zc9 K=false:=by
        unfold zfN at hF
        unfold zc9
        simp only[Bool.or_eq_true,yC] at hF
        rcases hF with h | h <;> rw[h] <;> rfl
       have HMF:=zab (uh HMB zcG _ w5 ((uh HP2).below (uh HB5)))
       have HDN:Hid ((zbm (.obj m) zcG).isSome=false->zaT (.obj m)=false):=fun h=>by unfold zaT; rw[uh HK,hF,h]; simp
       have HFL:Hid ((zac ((zbm (.obj m) zcG).getD [])).size<=1000000):=by show _<=_; rw[zaf]; have:=znB hok htw zcG; omega
       have HVAL:Hid (zac ((zbm (.obj m) zcG).getD [])=zac ((zbm (.obj m) zcG).getD [])):=rfl
       obtain⟨ff,hff⟩ : ∃ ff,zac ((zbm (.obj m) zcG).getD [])=ff:=⟨_,rfl⟩
       obtain⟨hs,hhs⟩ : ∃ hs,(zbm (.obj m) zcG).isSome=hs:=⟨_,rfl⟩
       rw[hff,hhs] at HMF
       rw[hhs] at HDN HFN
       rw[hff] at HFL HDE
       rw[hV] at HHV2
       clear hff hhs HVAL
       go_wp2_with fail
       refine (uh HMF).mono ?_
       rintro e w6 ⟨rfl,b6⟩
       have HB6:=zab (zaa (uh HB5) b6)
       have o6:=(uh HO5).below b6
       have HO6:=zab o6
       have k0:=o6.c
       have fz:=o6.fz 2
       clear HMF b6 o6 HO5 HB5 g0
       cases hs with
       | false=>
        have HDF:=zab (uh HDN rfl)
        clear k0 fz
        obtain⟨hrb,hbw⟩:=uh HRX w6 (uh HB6)
        have r0:=hrb.c
        have rz:=hrb.fz
        have HRB:=zab hrb
        have HBW:=zab hbw
        clear hrb hbw
        go_wp2
        refine bodyPost_ret (zam rfl _ _ w.heap.size 95 #[_,_,_,_] (0,0) _ _ rfl rfl (zat (uh HRB) [_,_,_,_] rfl) underlying95 rfl (by kernel_rfl)) rfl ?_
        exact⟨zah (uh HBW) (ye _) [_,_,_,_] 0,op0,by rw[uh HDF]; rfl,fun h=>by rw[uh HDF] at h; cases h⟩
       | true=>
        have o7:=(uh HO6).s2 ff
        have HB7:=zab ((uh HB6).setCell (p:=⟨w2.heap.size,2,none⟩) (ye _) (.string ff))
        have HHV3:=zab (uh HHV2 (w6.setCell ⟨w2.heap.size,2,none⟩ (.string ff)))
        have HO7:=zab o7
        have g7:=o7.c.1
        simp only at g7 k0
        clear o7 HHV2 HDN
        go_wp2_with fail
        generalize hw7:w6.setCell ⟨w2.heap.size,2,none⟩ (.string ff)=w7 at *
        clear hw7
        refine (uh HHV3).mono ?_
        rintro e w7' ⟨rfl,rfl⟩
        clear HHV3 k0 fz
        have HEQ:Hid ((⟨K,pp,ff,⟨#[]⟩⟩ : POp)=zdU (.obj m)):=by
         show _=_
         rw[uh HDE]
         simp only[hF,hV,if_true,Bool.false_eq_true,if_false]
        have HOE:Hid (zdv (⟨K,pp,ff,⟨#[]⟩⟩ : POp)=zaT (.obj m)):=by show _=_; rw[uh HEQ]; exact uh HFN (by first | rfl | trivial) hKz (fun _=>by first | rfl | trivial) (fun h=>by rw[hV] at h; cases h)
        have HOK:=zab (zfb (⟨K,pp,ff,⟨#[]⟩⟩ : POp) w7.drew (by show pp.size<=_; have:=uh HPL; omega) (by show ff.size<=_; have:=uh HFL; omega) (by show (0:Nat)<=_; omega))
        have hbd:Below w7.heap.size w7 w7.drew:=(yH _ _).drew
        obtain⟨x0,x1,x2,x3⟩:=(uh HO7).c
        simp only at x0 x1 x2 x3
        generalize zdv (⟨K,pp,ff,⟨#[]⟩⟩ : POp)=z9 at *
        clear g7 HB6 HO6
        go_wp2_with fail
        go_region_law (go_simp; refine (uh HOK).mono ?_; rintro e w9 ⟨rfl, b9⟩
                       have b9':=zaa hbd b9
                       obtain⟨y0,y1,y2,y3⟩:=((uh HO7).below b9').c
                       simp only at y0 y1 y2 y3
                       obtain⟨hrb,hbw⟩:=uh HRX w9 (zaa (uh HB7) b9')
                       have r0:=hrb.c
                       have rz:=hrb.fz)
        all_goals (
         have HRB:=zab hrb
         have HBW:=zab hbw
         clear hrb hbw b9 b9' hbd HOK x0 x1 x2 x3 y0 y1 y2 y3
         go_wp2
         refine bodyPost_ret (zam rfl _ _ w.heap.size 95 #[_,_,_,_] (0,0) _ _ rfl rfl (zat (uh HRB) [_,_,_,_] rfl) underlying95 rfl (by kernel_rfl)) rfl ?_
         exact⟨zah (uh HBW) (ye _) [_,_,_,_] 0,(⟨K,pp,ff,⟨#[]⟩⟩ : POp),by rw[← uh HOE]; rfl,fun _=>uh HEQ⟩)
      | false=>
       cases hV:zc9 K with
       | false=>
        rw[hV] at HHV2
        have HHV3:=zab (uh HHV2 w5)
        clear HHV2
        go_wp2_with fail
        refine (uh HHV3).mono ?_
        rintro e w5' ⟨rfl,rfl⟩
        clear HHV3
        have HEQ:Hid ((⟨K,pp,⟨#[]⟩,⟨#[]⟩⟩ : POp)=zdU (.obj m)):=by
         show _=_
         rw[uh HDE]
         simp only[hF,hV,Bool.false_eq_true,if_false]
        have HOE:Hid (zdv (⟨K,pp,⟨#[]⟩,⟨#[]⟩⟩ : POp)=zaT (.obj m)):=by show _=_; rw[uh HEQ]; exact uh HFN (by first | rfl | trivial) hKz (fun h=>by rw[hF] at h; cases h) (fun h=>by rw[hV] at h; cases h)
        have HOK:=zab (zfb (⟨K,pp,⟨#[]⟩,⟨#[]⟩⟩ : POp) w5.drew (by show pp.size<=_; have:=uh HPL; omega) (by show (0:Nat)<=_; omega) (by show (0:Nat)<=_; omega))
        have hbd:Below w5.heap.size w5 w5.drew:=(yH _ _).drew
        obtain⟨x0,x1,x2,x3⟩:=(uh HO5).c
        simp only at x0 x1 x2 x3
        generalize zdv (⟨K,pp,⟨#[]⟩,⟨#[]⟩⟩ : POp)=z9 at *
        clear g0
        go_wp2_with fail
        go_region_law (go_simp; refine (uh HOK).mono ?_; rintro e w9 ⟨rfl, b9⟩
                       have b9':=zaa hbd b9
                       obtain⟨y0,y1,y2,y3⟩:=((uh HO5).below b9').c
                       simp only at y0 y1 y2 y3
                       obtain⟨hrb,hbw⟩:=uh HRX w9 (zaa (uh HB5) b9')
                       have r0:=hrb.c
                       have rz:=hrb.fz)
        all_goals (
         have HRB:=zab hrb
         have HBW:=zab hbw
         clear hrb hbw b9 b9' hbd HOK x0 x1 x2 x3 y0 y1 y2 y3
         go_wp2
         refine bodyPost_ret (zam rfl _ _ w.heap.size 95 #[_,_,_,_] (0,0) _ _ rfl rfl (zat (uh HRB) [_,_,_,_] rfl) underlying95 rfl (by kernel_rfl)) rfl ?_
         exact⟨zah (uh HBW) (ye _) [_,_,_,_] 0,(⟨K,pp,⟨#[]⟩,⟨#[]⟩⟩ : POp),by rw[← uh HOE]; rfl,fun _=>uh HEQ⟩)
       | true=>
        rw[hV] at HHV2
        have HHV3:=zab (uh HHV2 w5)
        have hpl:=zbq hok hl
        have p5:=(uh HP2).below (uh HB5)
        have HFD:=zab (zg4 _ _ (zae (.obj m)) zb3 w5 p5 (by omega))
        have HCC:Hid (∀ j (hj:j < (zae (.obj m)).length),∃ g,xa=some ⟨g,0,none⟩/\g < w2.heap.size/\w5.cell? ⟨g,j*2+1,none⟩=some (.string (zac (zae (.obj m))[j].2))):=fun j hj=>by
         obtain⟨g,cap,hv,_,hg2,_⟩:=(uh HP2).cells j hj
         injection hv with hv _ _
         obtain⟨g',cap',hv',_,_,_,hc⟩:=p5.cells j hj
         injection hv' with hv' _ _
         rw[hv] at hv'
         injection hv' with hv'
         injection hv' with hv'
         subst hv'
         exact⟨g,hv,hg2,hc⟩
        have HVN:Hid ((∀ j (hj:j < (zae (.obj m)).length),(zae (.obj m))[j].1≠zb3)->zaT (.obj m)=false):=fun h=>by unfold zaT; rw[uh HK,hV,zcX h]; simp
        have HVY:Hid (∀ j (hj:j < (zae (.obj m)).length),(zae (.obj m))[j].1=zb3->∃ u,(zae (.obj m))[j].2=ct u/\zal (.obj m) zb3=some u/\zbp (zac (ct u))=true/\(ct u).length<=1000000):=fun j hj hk=>by
         obtain⟨u,h1,h2⟩:=zdO hok htw (fun ⟨l,e⟩=>by cases e) hj hk
         obtain⟨_,_,a3,_⟩:=zbG h1 hok htw
         exact⟨u,h2,h1,hg u h1,by omega⟩
        clear HHV2 p5
        generalize zae (.obj m)=ps at *
        go_wp2_with fail
        refine (uh HHV3).mono ?_
        rintro e w5' ⟨rfl,rfl⟩
        clear HHV3
        go_wp2_with fail
        refine (uh HFD).mono ?_
        rintro e w5' ⟨rfl,⟨rfl,hk⟩ | ⟨j,hj,rfl,hk⟩⟩
        ·have HDF:=zab (uh HVN hk)
         clear HFD HCC HVN HVY hk g0
         obtain⟨hrb,hbw⟩:=uh HRX w5 (uh HB5)
         have r0:=hrb.c
         have rz:=hrb.fz
         have HRB:=zab hrb
         have HBW:=zab hbw
         clear hrb hbw
         go_wp2
         refine bodyPost_ret (zam rfl _ _ w.heap.size 95 #[_,_,_,_] (0,0) _ _ rfl rfl (zat (uh HRB) [_,_,_,_] rfl) underlying95 rfl (by kernel_rfl)) rfl ?_
         exact⟨zah (uh HBW) (ye _) [_,_,_,_] 0,op0,by rw[uh HDF]; rfl,fun h=>by rw[uh HDF] at h; cases h⟩
        ·obtain⟨u,h1,hcu,hgu,hlu⟩:=uh HVY j hj hk
         obtain⟨g,rfl,hg2,hcc⟩:=uh HCC j hj
         rw[h1] at hcc
         have hjI:(j:Int) < (ps.length:Int):=by omega
         have HHU:Hid (zac (((zal (.obj m) zb3).map ct).getD [])=zac (ct u)):=by show _=_; rw[hcu]; rfl
         rw[uh HHU] at HDE
         have HVX:Hid (∃ u,zal (.obj m) zb3=some u/\zbp (zac (ct u))=true):=⟨u,hcu,hgu⟩
         have HLU:Hid ((zac (ct u)).size<=1000000):=by show _<=_; rw[zaf]; exact hlu
         have o7:=(uh HO5).s3 (zac (ct u))
         have HB7:=zab ((uh HB5).setCell (p:=⟨w2.heap.size,3,none⟩) (ye _) (.string (zac (ct u))))
         have HO7:=zab o7
         have k0:=(uh HO5).c
         have fz:=(uh HO5).fz 3
         simp only at k0
         clear HFD HCC HVN HVY hk h1 hcu hgu hlu o7 HHU hg
         generalize zac (ct u)=vv at *
         go_wp2_with fail
         generalize hw7:w5.setCell ⟨w2.heap.size,3,none⟩ (.string vv)=w7 at *
         clear hw7
         have HEQ:Hid ((⟨K,pp,⟨#[]⟩,vv⟩ : POp)=zdU (.obj m)):=by
          show _=_
          rw[uh HDE]
          simp only[hF,hV,if_true,Bool.false_eq_true,if_false]
         have HOE:Hid (zdv (⟨K,pp,⟨#[]⟩,vv⟩ : POp)=zaT (.obj m)):=by show _=_; rw[uh HEQ]; exact uh HFN (by first | rfl | trivial) hKz (fun h=>by rw[hF] at h; cases h) (fun _=>uh HVX)
         have HOK:=zab (zfb (⟨K,pp,⟨#[]⟩,vv⟩ : POp) w7.drew (by show pp.size<=_; have:=uh HPL; omega) (by show (0:Nat)<=_; omega) (by show vv.size<=_; have:=uh HLU; omega))
         have hbd:Below w7.heap.size w7 w7.drew:=(yH _ _).drew
         obtain⟨x0,x1,x2,x3⟩:=(uh HO7).c
         simp only at x0 x1 x2 x3
         generalize zdv (⟨K,pp,⟨#[]⟩,vv⟩ : POp)=z9 at *
         clear g0 k0 fz hcc
         go_wp2_with fail
         go_region_law (go_simp; refine (uh HOK).mono ?_; rintro e w9 ⟨rfl, b9⟩
                        have b9':=zaa hbd b9
                        obtain⟨y0,y1,y2,y3⟩:=((uh HO7).below b9').c
                        simp only at y0 y1 y2 y3
                        obtain⟨hrb,hbw⟩:=uh HRX w9 (zaa (uh HB7) b9')
                        have r0:=hrb.c
                        have rz:=hrb.fz)
         all_goals (
          have HRB:=zab hrb
          have HBW:=zab hbw
          clear hrb hbw b9 b9' hbd HOK x0 x1 x2 x3 y0 y1 y2 y3
          go_wp2
          refine bodyPost_ret (zam rfl _ _ w.heap.size 95 #[_,_,_,_] (0,0) _ _ rfl rfl (zat (uh HRB) [_,_,_,_] rfl) underlying95 rfl (by kernel_rfl)) rfl ?_
          exact⟨zah (uh HBW) (ye _) [_,_,_,_] 0,(⟨K,pp,⟨#[]⟩,vv⟩ : POp),by rw[← uh HOE]; rfl,fun _=>uh HEQ⟩)
 ·have hno:(!(kd v == 6))=true:=by simp[h6]
  rw[hno] at hfo
  have HD:=zab (zp3 h6)
  have HK:=zab kR
  have HB:=zab hR
  have c0:(w.alloc (.cells #[.int .i64 0,.string ⟨#[]⟩,.string ⟨#[]⟩,.string ⟨#[]⟩] 95)).cell? ⟨w.heap.size,0,none⟩=some (.int .i64 0):=yF kR 0
  have fz:=yI kR
  clear hok htw hl hg hno h6 kR hR
  generalize zac (ct v)=T at *
  go_enter func48,ntmps48
  go_wp2
  refine bodyPost_ret (zam rfl _ _ w.heap.size 95 #[_,_,_,_] (0,0) _ _ rfl rfl (uh HK) underlying95 rfl (by kernel_rfl)) rfl ?_
  exact⟨uh HB,op0,by rw[uh HD]; rfl,fun h=>by rw[uh HD] at h; cases h⟩
theorem zqn:(prog.info? 95).map (fun i=>(i.zero,i.size,i.bytes))=some (some (.agg #[.int .i64 0,.string ByteArray.empty,.string ByteArray.empty,.string ByteArray.empty]),4,56):=by kernel_rfl
def OPr (w:World) (B:Nat) (v:Value) (ms:List POp) : Prop:=w.ownsRow B 95 4 v ms.length (ms.flatMap opV)
theorem OPr.step {w:World} {B:Nat} {v:Value} {ms:List POp} {m:POp} (h:w.ownsRow B 95 4 v (ms.length+1) (ms.flatMap opV++opV m)) : OPr w B v (ms++[m]):=by
 unfold OPr
 rw[yh,List.flatMap_append,List.flatMap_singleton]
 exact h
theorem OPr.orow {w:World} {B:Nat} {v:Value} {ms:List POp} (h:OPr w B v ms) : zbt opE w v ms v.ownBlock.toList/\Fsh B v.ownBlock.toList:=by
 refine⟨⟨ms.map fun m=>(opV m,[]),by simp,fun j p x hp hx=>?_,?_,?_⟩,?_⟩
 ·rw[List.getElem?_map,hx] at hp
  injection hp with hp
  subst hp
  exact⟨rfl,rfl⟩
 ·have e:(ms.map fun m=>((opV m,[]) : List Value×List Nat)).flatMap (·.1)=ms.flatMap opV:=by rw[List.flatMap_map]
  rw[e]
  exact zaC h (yt _)
 ·have e:(ms.map fun m=>((opV m,[]) : List Value×List Nat)).flatMap (·.2)=[]:=by rw[List.flatMap_map]; simp
  rw[e,List.append_nil]
 ·refine⟨?_,fun b hb=>(h.lt b (by simpa using hb)).1⟩
  cases v.ownBlock <;> simp
theorem zyy (w:World) (m:POp) : ∀ j u,(opV m)[j]?=some u->(w.alloc (.cells (zf4 m) 95)).cell? ((⟨w.heap.size,0,none⟩ : Addr).add j)=some u:=zql w (opV m) 95
theorem zyz (m:POp) : ∀ u∈opV m,u.oneCell'=true:=by
 intro u hu
 simp only[opV,List.mem_cons,List.not_mem_nil,or_false] at hu
 rcases hu with rfl | rfl | rfl | rfl <;> rfl
theorem zqo {u:JV} (h:okV u) (h0:0 < (zac (ct u)).size) : ((((zac (ct u))[0]).toNat:Int) != 91) = !(kd u == 5):=by
 obtain⟨c,r,e,f⟩:=zlB h
 have hb:((zac (ct u))[0]).toNat=c.toNat:=by
  rw[← zas _ 0 h0,e]
  exact (zb0 (c:=c) (r:=r)).2
 rw[hb,← f]
 unfold fb
 by_cases h1:c.toNat=91
 ·rw[h1]; rfl
 ·have a1:((c.toNat:Int) != 91)=true:=by simp; omega
  rw[a1]
  symm
  rw[Bool.not_eq_true',yd]
  repeat (first | (split; omega) | split)
  all_goals omega
theorem zsJ (l:JL) : (zae (.arr l)).length=l.toL.length/\∀ j (h:j < (zae (.arr l)).length) (h':j < l.toL.length),(zae (.arr l))[j].2=ct l.toL[j]:=by
 have h1:(zae (.arr l)).length=l.toL.length:=by
  show (ze7 0 (ctL l)).length=_
  rw[zcA,zaG,yl]
 refine⟨h1,fun j h h'=>?_⟩
 have e:=zh3 (ctL l) 0 j h
 show ((ze7 0 (ctL l))[j]'h).2=_
 rw[e]
 simp only[zaG,List.getElem_map]
theorem zhe (s:ByteArray) (w:World) (hs:s.size<=1048576) :
  Calls prog 22 #[.string s] w fun e w'=>∃ v,e = .returned (.tuple #[v,.int .i64 (dcR s).2.1,.int .i64 (dcR s).2.2])/\OPr w' w.heap.size v (dcR s).1/\Below w.heap.size w w':=by
 obtain⟨i0,hi,hz0,hz1,hz2⟩:=info_parts zqn
 have hA:=zag w (.cells #[] 95)
 have HE0:Hid (OPr (w.alloc (.cells #[] 95)) w.heap.size (.slice (some ⟨w.heap.size,0,none⟩) 0 0) []):=zkD w 95 4
 have HCN:Hid (∀ wx,Calls prog 46 #[.string s] wx fun e w'=>e = .returned (za5 s)/\Below wx.heap.size wx w'):=fun wx=>zcY s wx hs
 have HA:=zab hA
 clear hA hs
 cases hr:zaZ s with
 | inl c=>
  have hc:=zfG hr
  have HC:Hid (za5 s = .tuple #[.string ⟨#[]⟩,.int .i64 (c:Int)]):=by show _=_; unfold za5; rw[hr]
  have HR:Hid (dcR s=([],1,0)):=by show _=_; unfold dcR; rw[hr]
  rw[uh HC] at HCN
  have t2:((c:Int) != 0)=true:=by simp; omega
  have t3:¬ (c:Int)=0:=by omega
  have t4:¬ c=0:=by omega
  clear hr hc HC
  go_enter func22,ntmps22
  go_wp2_with fail
  refine (uh HCN _).mono ?_
  rintro e w2 ⟨rfl,b2⟩
  have HB2:=zab (zaa (uh HA) b2)
  have HO2:Hid (OPr w2 w.heap.size (.slice (some ⟨w.heap.size,0,none⟩) 0 0) []):=zaj (uh HE0) b2
  clear b2 HCN
  go_wp2
  go_ret3
  exact⟨_,by rw[uh HR]; rfl,by rw[uh HR]; exact uh HO2,uh HB2⟩
 | inr a=>
  have hgd:=GdV.of hr
  have HC:Hid (za5 s = .tuple #[.string (zac (ct a)),.int .i64 0]):=by show _=_; unfold za5; rw[hr]
  rw[uh HC] at HCN
  have h0:=zp5 hgd.ok
  have h0I:(0:Int) < ((zac (ct a)).size:Int):=by omega
  have hfa:=zqo hgd.ok h0
  by_cases h5:kd a=5
  ·obtain⟨l,rfl⟩ : ∃ l,a = .arr l:=by cases a <;> first | exact⟨_,rfl⟩ | (simp[kd] at h5)
   rw[show (!(kd (.arr l) == 5))=false from rfl] at hfa
   have HPT:Hid (∀ w,Calls prog 47 #[.string (zac (ct (.arr l)))] w fun e w'=>∃ r,e = .returned r/\PR w' w.heap.size r (zae (.arr l))/\Below w.heap.size w w'):=fun w=>zch (.arr l) hgd.ok w (by have:=hgd.len; omega)
   obtain⟨hpl,hpt⟩:=zsJ l
   have HDW:Hid (∀ j (h:j < l.toL.length) (wx:World),Calls prog 48 #[.string (zac (ct l.toL[j]))] wx (DcP l.toL[j] wx)):=fun j h wx=>by
    have hu:=hgd.item (yr h)
    exact zmk _ hu.ok hu.tw (by have:=hu.len; omega) (fun u hc=>(hu.child hc).good) wx
   have HPT2:=zab hpt
   have HR0:Hid (100 < l.toL.length->dcR s=([],3,100)):=fun h=>by unfold dcR; rw[hr]; simp only; rw[yg h]
   have HR1:Hid (¬ 100 < l.toL.length->∀ i (hi:i < l.toL.length),zaT l.toL[i]=false->(∀ j (h:j < l.toL.length),j < i->zaT l.toL[j]=true)->dcR s=([],4,(i:Int))):=fun h i hi hb hg=>by
    have hf:l.toL.findIdx? (fun v=>!zaT v)=some i:=by
     rw[List.findIdx?_eq_some_iff_getElem]
     exact⟨hi,by simp[hb],fun j hj=>by simp[hg j (by omega) hj]⟩
    unfold dcR; rw[hr]; simp only; rw[yf h,hf]
   have HR2:Hid (¬ 100 < l.toL.length->(∀ j (h:j < l.toL.length),zaT l.toL[j]=true)->dcR s=(l.toL.map zdU,0,0)):=fun h hg=>by
    have hf:l.toL.findIdx? (fun v=>!zaT v)=none:=by
     rw[List.findIdx?_eq_none_iff]
     intro x hx
     obtain⟨j,hj,rfl⟩:=List.mem_iff_getElem.1 hx
     simp[hg j hj]
    unfold dcR; rw[hr]; simp only; rw[yf h,hf]
   clear hr hgd h5 hpt HC
   generalize zae (.arr l)=ps at *
   generalize l.toL=xs at *
   go_enter func22,ntmps22
   go_wp2_with fail
   refine (uh HCN _).mono ?_
   rintro e w2 ⟨rfl,b2⟩
   have HB2:=zab (zaa (uh HA) b2)
   have HO2:Hid (OPr w2 w.heap.size (.slice (some ⟨w.heap.size,0,none⟩) 0 0) []):=zaj (uh HE0) b2
   have HP3:=zab (uh HPT w2)
   clear b2 HCN HPT HE0 HA
   go_wp2_with fail
   refine (uh HP3).mono ?_
   rintro e w3 ⟨pv,rfl,p3,b3⟩
   obtain⟨xa,xc,rfl⟩ : ∃ xa xc,pv = .slice xa ps.length xc:=by
    rcases p3.2 with ⟨hv,h0⟩ | ⟨g,cap,cur,hv,_⟩
    ·exact⟨none,0,by rw[hv,h0]⟩
    ·exact⟨_,_,hv⟩
   have HB3:=zab (zaa (uh HB2) b3)
   have HN3:Hid (OPr w3 w.heap.size (.slice (some ⟨w.heap.size,0,none⟩) 0 0) []):=zaj (uh HO2) b3
   have HPR:=zab p3
   clear HP3 p3 b3 HO2 HB2
   by_cases h100:100 < ps.length
   ·have t1:(100:Int) < (ps.length:Int):=by omega
    have HR:=zab (uh HR0 (by omega))
    clear HR0 HR1 HR2 HPR h100
    go_wp2
    go_ret3
    exact⟨_,by rw[uh HR]; rfl,by rw[uh HR]; exact uh HN3,uh HB3⟩
   ·have t1:¬ (100:Int) < (ps.length:Int):=by omega
    have hA4:=zag w3 (.cells #[] 95)
    have HM4:Hid (OPr (w3.alloc (.cells #[] 95)) w3.heap.size (.slice (some ⟨w3.heap.size,0,none⟩) 0 0) []):=zkD w3 95 4
    have HA4:=zab hA4
    rw[hpl] at HPR
    have HPT3:Hid (∀ k (h:k < xs.length) (wx:World),Below w3.heap.size w3 wx->∃ g,xa=some ⟨g,0,none⟩/\wx.cell? ⟨g,k*2+1,none⟩=some (.string (zac (ct xs[k])))):=fun k h wx hx=>by
     have hk:k < ps.length:=by omega
     obtain⟨g,cap,hv,_,_,_,hc⟩:=((uh HPR).below hx).cells k hk
     injection hv with hv _ _
     rw[uh HPT2 k hk h] at hc
     exact⟨g,hv,hc⟩
    have hx100:xs.length<=100:=by omega
    clear hA4 HPT2 HR0 h100
    go_wp2
    generalize hw4:w3.alloc (.cells #[] 95)=w4 at *
    clear hw4
    go_loopw [9,10] (fun lv i wr=>∃ k:Nat,k<=xs.length/\i = .int .i64 k/\OPr wr w3.heap.size lv ((xs.take k).map zdU)/\Below w3.heap.size w3 wr/\∀ j (h:j < xs.length),j < k->zaT xs[j]=true) (fun _ i _=>xs.length - (intOf i).toNat)
    case atStart=>exact⟨0,yt _,rfl,uh HM4,uh HA4,fun j _ h=>by omega⟩
    case round=>
     obtain⟨k,hk,rfl,ho,hb,hall⟩:=hrel
     have HO:=zab ho
     have HBR:=zab hb
     have HALL:=zab hall
     have hbz:=hb.size
     clear HM4 HA4
     by_cases hlt:k < xs.length
     ·have hltI:(k:Int) < (xs.length:Int):=by omega
      obtain⟨g,rfl,hc⟩:=uh HPT3 k hlt wr hb
      have HD:=zab (uh HDW k hlt wr)
      have HST:Hid ((xs.take (k+1)).map zdU=(xs.take k).map zdU++[zdU xs[k]]):=by
       show _=_
       rw[yy hlt,yw]; rfl
      have hal:((xs.take k).map zdU).length<=100:=by rw[yl,ym]; omega
      clear ho hb hall
      go_wp2_with fail
      refine (uh HD).mono ?_
      rintro e w5 ⟨b5,mo,rfl,hmo⟩
      have b35:=zaa (uh HBR) b5
      cases hok:zaT xs[k] with
      | false=>
       have HR:=zab (uh HR1 (by omega) k hlt hok (uh HALL))
       have hN:=zag w5 (.cells (zf4 mo) 95)
       have HN6:Hid (OPr (w5.alloc (.cells (zf4 mo) 95)) w.heap.size (.slice (some ⟨w.heap.size,0,none⟩) 0 0) []):=zaj (uh HN3) (zaa b35 hN)
       have HB6:=zab (zaa (uh HB3) (zaa b35 hN))
       clear HD b5 b35 hmo hok hN hc
       go_wp2
       go_ret3
       exact⟨_,by rw[uh HR]; rfl,by rw[uh HR]; exact uh HN6,uh HB6⟩
      | true=>
       obtain rfl:=hmo hok
       have HALL2:Hid (∀ j (h:j < xs.length),j < k+1->zaT xs[j]=true):=fun j h hj=>by
        by_cases e:j=k
        ·subst e; exact hok
        ·exact uh HALL j h (by omega)
       generalize zdU xs[k]=mo at *
       generalize (xs.take k).map zdU=A at *
       have hN:=zag w5 (.cells (zf4 mo) 95)
       have hM:=zag (w5.alloc (.cells (zf4 mo) 95)) (.cells (zf4 mo) 95)
       have zN:(w5.alloc (.cells (zf4 mo) 95)).heap.size=w5.heap.size+1:=by simp
       have lM:=zyy (w5.alloc (.cells (zf4 mo) 95)) mo
       rw[zN] at lM
       have bN:=zaa b5 (zaa hN hM)
       have HOM:Hid (OPr _ w3.heap.size u9 A):=zaj (uh HO) bN
       have HBM:=zab (zaa (uh HBR) bN)
       have HLM:=zab lM
       clear HD b5 b35 hmo hok hN hM zN lM bN hc
       go_wp2_with (at_builtin; refine wpList_append_own _ rfl (.tmp 52) (.tmp 54) 26 rfl w3.heap.size 95 i0 (.agg #[.int .i64 0,.string ByteArray.empty,.string ByteArray.empty,.string ByteArray.empty]) 4 56 underlying26 hi hz0 hz1 hz2 rfl (by decide) _ _ _ rfl (uh HOM) ⟨w5.heap.size+1,0,none⟩ 1 1 (opV mo) rfl rfl (uh HLM) (zyz mo) (by unfold maxLen; omega) (by omega) (uh HBM).size ?_)
       generalize ((w5.alloc (.cells (zf4 mo) 95)).alloc (.cells (zf4 mo) 95))=wM at *
       intro l6 w6 o6 g6 gx6
       clear gx6
       have HO6:Hid (OPr w6 w3.heap.size l6 (A++[mo])):=OPr.step o6
       have HB6:=zab ((uh HBM).grown g6 (uh HBM).size (fun b hb=>((uh HOM).lt b hb).1))
       clear o6 g6 HOM HBM HLM
       go_wp2
       go_roundw
       case rel=>exact⟨k+1,by omega,by go_num,by rw[uh HST]; exact uh HO6,uh HB6,uh HALL2⟩
       case measure=>simp[intOf]; omega
     ·have hkn:k=xs.length:=by omega
      subst hkn
      rw[List.take_length] at HO
      have HR:=zab (uh HR2 (by omega) (fun j h=>hall j h h))
      have HO6:Hid (OPr wr w.heap.size u9 (xs.map zdU)):=zaC (uh HO) (uh HB3).size
      have HB6:=zab (zaa (uh HB3) (uh HBR))
      clear ho hb hall
      go_wp2
      go_ret3
      exact⟨_,by rw[uh HR]; rfl,by rw[uh HR]; exact uh HO6,uh HB6⟩
  ·have hno:(!(kd a == 5))=true:=by simp[h5]
   rw[hno] at hfa
   have HR:Hid (dcR s=([],2,0)):=by show _=_; unfold dcR; rw[hr]; cases a <;> first | rfl | exact absurd rfl h5
   clear hr hgd h5 hno HC
   generalize zac (ct a)=T at *
   go_enter func22,ntmps22
   go_wp2_with fail
   refine (uh HCN _).mono ?_
   rintro e w2 ⟨rfl,b2⟩
   have HB2:=zab (zaa (uh HA) b2)
   have HO2:Hid (OPr w2 w.heap.size (.slice (some ⟨w.heap.size,0,none⟩) 0 0) []):=zaj (uh HE0) b2
   clear b2 HCN
   go_wp2
   go_ret3
   exact⟨_,by rw[uh HR]; rfl,by rw[uh HR]; exact uh HO2,uh HB2⟩
theorem zkG (a b:List (List UInt8)) : pre a b=a.isPrefixOf b:=by
 rw[Bool.eq_iff_iff,List.isPrefixOf_iff_prefix]
 unfold pre
 rw[decide_eq_true_iff]
 constructor
 ·rintro⟨h1,h2⟩
  refine⟨b.drop a.length,?_⟩
  refine List.ext_getElem? fun j=>?_
  by_cases hj:j < a.length
  ·rw[List.getElem?_append_left hj]
   have:=h2 j hj
   rw[yx hj,yx (by omega)]
   simpa [List.getD,hj,show j < b.length by omega] using this
  ·rw[List.getElem?_append_right (by omega),List.getElem?_drop]
   congr 1
   omega
 ·rintro⟨r,rfl⟩
  refine⟨by simp,fun j hj=>?_⟩
  simp[List.getD,List.getElem?_append_left hj]
theorem zsK {a b:List (List UInt8)} (h1:pre a b=true) (h2:pre b a=true) : a=b:=by
 rw[zkG,List.isPrefixOf_iff_prefix] at h1 h2
 exact h1.eq_of_length (Nat.le_antisymm h1.length_le h2.length_le)
theorem znC (a:List (List UInt8)) : pre a a=true:=by
 rw[zkG,List.isPrefixOf_iff_prefix]; exact List.prefix_refl a
theorem zqp (sv su:ByteArray) (a:Option Addr) (cap:Nat) (w:World) :
  Calls prog 93 #[.string sv,.slice a 0 cap,.string su] w fun e w'=>e = .returned (.tuple #[.string su,.bool true])/\Below w.heap.size w w':=by
 go_enter func93,ntmps93
 go_wp2
 go_ret2
 exact⟨rfl,yH _ _⟩
theorem zml (v u:JV) (ts:List (List UInt8)) (a:Option Addr) (g off cap:Nat) (w:World) (hv:GdT v) (hu:GdT u) (hl:(ct v).length<=100000) (hul:(ct u).length<=100000) (hts:∀ x∈ts,x.length<=1048576) (hn:ts.length<=1048577) (hcap:ts.length<=cap) (hss:SS w a g off (ts.map baT)) :
  Calls prog 93 #[.string (zac (ct v)),.slice a ts.length cap,.string (zac (ct u))] w fun e w'=>e = .returned (zsG (zet v ts u))/\Below w.heap.size w w':=by
 rcases List.eq_nil_or_concat ts with rfl | ⟨xs,t,rfl⟩
 ·exact zqp _ _ a cap w
 ·rw[List.concat_eq_append] at *
  have hlen:(xs++[t]).length=xs.length+1:=by simp
  rw[hlen] at hn hcap ⊢
  exact zsI v u xs t a g off cap w hv hu hl hul hts (by omega) hcap hss
theorem zoM {v c:JV} {xs:List (List UInt8)} {t:List UInt8} (h:za0 v (xs++[t])=some c) : ∃ hm,za0 v xs=some hm/\zal hm t=some c/\zbQ v (xs++[t])=some (zcT v xs (za6 hm t)):=by
 rw[zeK] at h
 cases hg:za0 v xs with
 | none=>rw[hg] at h; cases h
 | some hm=>
  rw[hg] at h
  have h':za0 hm [t]=some c:=h
  rw[zbV] at h'
  cases hc:zal hm t with
  | none=>rw[hc] at h'; cases h'
  | some x=>
   rw[hc] at h'
   have:x=c:=by have h2:za0 x []=some c:=h'; rw[zcS] at h2; injection h2
   subst this
   refine⟨hm,rfl,hc,?_⟩
   unfold zbQ zd2 zdc zcP
   rw[yf (by simp),List.dropLast_concat,hg]
   simp[hc]
theorem znD (v c:JV) (ts:List (List UInt8)) (a:Option Addr) (g off cap:Nat) (w:World) (hne:ts≠[]) (hv:GdT v) (hg:za0 v ts=some c) (hl:(ct v).length<=100000) (hts:∀ x∈ts,x.length<=1048576) (hn:ts.length<=1048577) (hcap:ts.length<=cap) (hss:SS w a g off (ts.map baT)) :
  ∃ r,zbQ v ts=some r/\GdT r/\(ct r).length<=(ct v).length/\Calls prog 95 #[.string (zac (ct v)),.slice a ts.length cap] w fun e w'=>e = .returned (.string (zac (ct r)))/\Below w.heap.size w w':=by
 rcases List.eq_nil_or_concat ts with rfl | ⟨xs,t,rfl⟩
 ·exact absurd rfl hne
 ·rw[List.concat_eq_append] at *
  have hlen:(xs++[t]).length=xs.length+1:=by simp
  obtain⟨hm,h1,h2,h3⟩:=zoM hg
  have h4:=zci (u:=za6 hm t) hv h1
  have h5:=zf2 h2
  refine⟨_,h3,zdd hv h3,by omega,?_⟩
  rw[hlen] at hn hcap ⊢
  exact zqg v hm c xs t a g off cap w hv h1 h2 hl hts (by omega) hcap hss
def xOf (o:POp) (u:JV) : XOp:=⟨o.kind,(zar o.path.data.toList).getD [],(zar o.src.data.toList).getD [],u⟩
def doR:Nat⊕JV->Value
 | .inl c=>.tuple #[.string ⟨#[]⟩,.int .i64 (c:Int)]
 | .inr r=>.tuple #[.string (zac (ct r)),.int .i64 0]
theorem zjo (s:ByteArray) (hs:s.size<=1048576) : ((zar s.data.toList).getD []).length<=1048577/\∀ x∈(zar s.data.toList).getD [],x.length<=1048576:=by
 have hd:=zak s
 have h1:=zg3 s.data.toList
 cases hp:zar s.data.toList with
 | none=>simp
 | some ts=>
  rw[hp] at h1
  simp only[Option.getD_some] at h1 ⊢
  have h2:=zg5 hp
  exact⟨by omega,fun x hx=>by have:=h2 x hx; omega⟩
theorem OT.all {w:World} {B:Nat} {v:Value} {ts:List (List UInt8)} (h:OT w B v ts) : ∃ a g cap,v = .slice a ts.length cap/\SS w a g 0 (ts.map baT)/\ts.length<=cap:=by
 obtain⟨a,g,cap,rfl,hs,_⟩:=h.shape
 refine⟨a,g,cap,rfl,hs,?_⟩
 rcases h.2 with ⟨hv,h0⟩ | ⟨g',cap',cur,hv,_,_,hc,_⟩
 ·omega
 ·injection hv with _ _ e
  omega
theorem zoN {v:JV} {ts:List (List UInt8)} (h:za0 v ts=none) : zbQ v ts=none:=by
 rcases List.eq_nil_or_concat ts with rfl | ⟨xs,t,rfl⟩
 ·unfold zbQ; rw[yg rfl]
 ·rw[List.concat_eq_append] at *
  rw[zeK] at h
  unfold zbQ zd2 zdc zcP
  rw[yf (by simp),List.dropLast_concat]
  cases hg:za0 v xs with
  | none=>rfl
  | some hm=>
   rw[hg] at h
   have h':za0 hm [t]=none:=h
   rw[zbV] at h'
   cases hc:zal hm t with
   | none=>simp[hc]
   | some x=>rw[hc] at h'; have h2:za0 x []=none:=h'; rw[zcS] at h2; cases h2
structure DW (w0 w:World) (A:Nat) (o:POp) (ps fs:List (List UInt8)) (B1 B2:Nat) (a1 a2:Option Addr) (g1 g2 cap1 cap2:Nat) : Prop where
 op:zfi w A o
 s1:SS w a1 g1 0 (ps.map baT)
 s2:SS w a2 g2 0 (fs.map baT)
 t1:OT w B1 (.slice a1 ps.length cap1) ps
 t2:OT w B2 (.slice a2 fs.length cap2) fs
 bl:Below w0.heap.size w0 w
theorem DW.next {w0 w w':World} {A B1 B2 g1 g2 cap1 cap2:Nat} {o:POp} {ps fs:List (List UInt8)} {a1 a2:Option Addr} (h:DW w0 w A o ps fs B1 B2 a1 a2 g1 g2 cap1 cap2) (hb:Below w.heap.size w w') : DW w0 w' A o ps fs B1 B2 a1 a2 g1 g2 cap1 cap2:=
 ⟨h.op.below hb,h.s1.below hb,h.s2.below hb,zaj h.t1 hb,zaj h.t2 hb,zaa h.bl hb⟩
theorem zu9 (v u:JV) (o:POp) (w:World) (hv:GdT v) (hl:(ct v).length<=100000) (hp:o.path.size<=1048576) (hs:o.src.size<=1048576) (hk1:1<=o.kind) (hk6:o.kind<=6) (hval:zc9 o.kind=true->o.val=zac (ct u)/\GdT u/\(ct u).length<=100000) :
  Calls prog 50 #[.string (zac (ct v)),.agg (zf4 o)] w fun e w'=>e = .returned (doR (doV v (xOf o u)))/\Below w.heap.size w w':=by
 obtain⟨hpn,hpt⟩:=zjo o.path hp
 obtain⟨hsn,hst⟩:=zjo o.src hs
 have hX:xOf o u=⟨o.kind,(zar o.path.data.toList).getD [],(zar o.src.data.toList).getD [],u⟩:=rfl
 have kA:zfi (w.alloc (.cells (zf4 o) 95)) w.heap.size o:=yG w (.cells (zf4 o) 95)
 have bA:=zai w (.cells (zf4 o) 95)
 have HT1:=zab (zdu o.path (w.alloc (.cells (zf4 o) 95)) hp)
 have HT2:Hid (∀ wx,Calls prog 67 #[.string o.src] wx fun e w'=>∃ v,e = .returned (.tuple #[v,.bool (zar o.src.data.toList).isSome])/\OT w' wx.heap.size v ((zar o.src.data.toList).getD [])/\Below wx.heap.size wx w'):=fun wx=>zdu o.src wx hs
 have HOA:=zab kA
 have HBA:=zab bA
 have hc:=kA.c
 generalize (zar o.path.data.toList).isSome=ok1 at *
 generalize (zar o.src.data.toList).isSome=ok2 at *
 generalize (zar o.path.data.toList).getD []=ps at *
 generalize (zar o.src.data.toList).getD []=fs at *
 have HGT:Hid (∀ (ts:List (List UInt8)) (a:Option Addr) (g cap:Nat) (wx:World),ts=ps∨ts=fs->SS wx a g 0 (ts.map baT)->Calls prog 92 #[.string (zac (ct v)),.slice a ts.length cap] wx fun e w'=>e = .returned (zpW v ts)/\Below wx.heap.size wx w'):=fun ts a g cap wx ht h=>zbT v hv.ok hv.tw (by omega) a g 0 cap ts wx h (by rcases ht with rfl | rfl <;> assumption) (by rcases ht with rfl | rfl <;> assumption)
 have HH:Hid (∀ (x y:List (List UInt8)) (wx:World) (a b:Value) (B1 B2:Nat),(x=fs/\y=ps)∨(x=ps/\y=fs)->OT wx B1 a x->OT wx B2 b y->Calls prog 94 #[a,b] wx fun e w'=>e = .returned (.bool (pre x y))/\Below wx.heap.size wx w'):=fun x y wx a b B1 B2 hq h1 h2=>(zoV a b x y wx h1 h2 (by rcases hq with ⟨rfl,rfl⟩ | ⟨rfl,rfl⟩ <;> assumption) (by rcases hq with ⟨rfl,rfl⟩ | ⟨rfl,rfl⟩ <;> assumption)).mono (by rintro e w' ⟨rfl,n,rfl⟩; exact⟨rfl,zl7 wx n _⟩)
 obtain⟨gx,gb,hgr,hgn,hgs⟩ : ∃ (gx:ByteArray) (gb:Bool),zpW v ps = .tuple #[.string gx,.bool gb]/\(za0 v ps=none->gb=false)/\(∀ c,za0 v ps=some c->gx=zac (ct c)/\gb=true):=by
  cases h:za0 v ps with
  | none=>exact⟨_,_,zff h,fun _=>rfl,fun c h=>by cases h⟩
  | some x=>exact⟨_,_,zbC h,fun h=>(by cases h),fun c hc=>by injection hc with hc; subst hc; exact⟨rfl,rfl⟩⟩
 have HG:Hid (∀ (a:Option Addr) (g cap:Nat) (wx:World),SS wx a g 0 (ps.map baT)->Calls prog 92 #[.string (zac (ct v)),.slice a ps.length cap] wx fun e w'=>e = .returned (.tuple #[.string gx,.bool gb])/\Below wx.heap.size wx w'):=fun a g cap wx h=>by have:=uh HGT ps a g cap wx (.inl rfl) h; rw[hgr] at this; exact this
 obtain⟨DO,hDO⟩ : ∃ D,doV v (xOf o u)=D:=⟨_,rfl⟩
 rw[hDO]
 rw[hX] at hDO
 have HD:=zab hDO
 have HFA:Hid (GdT v/\(ct v).length<=100000/\ps.length<=1048577/\(∀ x∈ps,x.length<=1048576)/\fs.length<=1048577/\(∀ x∈fs,x.length<=1048576)/\(zc9 o.kind=true->o.val=zac (ct u)/\GdT u/\(ct u).length<=100000)/\1<=o.kind/\o.kind<=6/\(za0 v ps=none->gb=false)/\∀ c,za0 v ps=some c->gx=zac (ct c)/\gb=true):=⟨hv,hl,hpn,hpt,hsn,hst,hval,hk1,hk6,hgn,hgs⟩
 clear hX hDO hv hl hp hs hpn hpt hsn hst hval hk1 hk6 hgn hgs hgr kA bA
 go_enter func50,ntmps50
 go_wp2_with fail
 generalize (w.alloc (.cells (zf4 o) 95))=wA at *
 refine (uh HT1).mono ?_
 rintro e w1 ⟨v1,rfl,o1,b1⟩
 have HO1:=zab ((uh HOA).below b1)
 obtain⟨p10,p11,p12,p13⟩:=(uh HO1).c
 obtain⟨a1,g1,cap1,rfl,ss1,hcap1⟩:=OT.all o1
 have HOT1:=zab o1
 have HSS1:=zab ss1
 have HB1:=zab (zaa (uh HBA) b1)
 have HT2':=zab (uh HT2 w1)
 clear HT1 HT2 o1 ss1 b1 HOA HBA hc
 go_wp2_with fail
 refine (uh HT2').mono ?_
 rintro e w2 ⟨v2,rfl,o2,b2⟩
 obtain⟨a2,g2,cap2,rfl,ss2,hcap2⟩:=OT.all o2
 have HD2:Hid (DW w w2 w.heap.size o ps fs _ _ a1 a2 g1 g2 cap1 cap2):=⟨(uh HO1).below b2,(uh HSS1).below b2,ss2,zaj (uh HOT1) b2,o2,zaa (uh HB1) b2⟩
 obtain⟨q10,q11,q12,q13⟩:=(uh HD2).op.c
 have HG2:=zab (uh HG a1 g1 cap1 w2 (uh HD2).s1)
 clear HT2' o2 ss2 b2 HO1 HB1 HG HSS1 HOT1 p10 p11 p12 p13
 go_wp2_with fail
 refine (uh HG2).mono ?_
 rintro e w3 ⟨rfl,b3⟩
 have HD3:=zab ((uh HD2).next b3)
 obtain⟨r10,r11,r12,r13⟩:=(uh HD3).op.c
 clear HG2 b3 HD2 q10 q11 q12 q13
 obtain⟨hv,hl,hpn,hpt,hsn,hst,hval,hk1,hk6,hgn,hgs⟩:=uh HFA
 clear HFA
 rcases (show o.kind=1∨o.kind=4∨o.kind=5∨(o.kind=2∨o.kind=3∨o.kind=6) by omega) with hk | hk | hk | hk
 ·obtain⟨e1,e2,e3⟩:=hval (by rw[hk]; rfl)
  have HP:=zab (zml v u ps a1 g1 0 cap1 w3 hv e2 hl e3 hpt hpn hcap1 (uh HD3).s1)
  rw[← e1] at HP
  have HE:Hid (DO=zc4 3 (zet v ps u)):=by show _=_; rw[← uh HD]; unfold doV; simp only; rw[yg hk]
  clear hv hl hpn hpt hsn hst hval hk1 hk6 e1 e2 e3 hgn hgs HGT HH
  cases hpv:zet v ps u
  all_goals (
   rw[hpv] at HP HE
   simp only[zsG] at HP
   clear hpv
   go_wp2_with fail
   refine (uh HP).mono ?_
   rintro e w4 ⟨rfl,b4⟩
   have HB4:=zab (zaa (uh HD3).bl b4)
   clear HP b4
   go_wp2
   go_ret2
   exact⟨by rw[uh HE]; rfl,uh HB4⟩)
 ·have HF3:=zab (uh HGT fs a2 g2 cap2 w3 (.inr rfl) (uh HD3).s2)
  cases hg:za0 v fs with
  | none=>
   rw[zff hg] at HF3
   have HE:Hid (DO = .inl 3):=by show _=_; rw[← uh HD]; unfold doV; simp only; rw[hk,yf (by decide),yf (by decide),yf (by decide),yg rfl,hg]
   clear hv hl hpn hpt hsn hst hval hk1 hk6 hgn hgs HGT HH hg
   go_wp2_with fail
   refine (uh HF3).mono ?_
   rintro e w4 ⟨rfl,b4⟩
   have HB4:=zab (zaa (uh HD3).bl b4)
   clear HF3 b4
   go_wp2
   go_ret2
   exact⟨by rw[uh HE]; rfl,uh HB4⟩
  | some m=>
   rw[zbC hg] at HF3
   have HE:Hid (DO=if fs=ps then .inr v else if fs.isPrefixOf ps then .inl 6 else match zbQ v fs with | none=>.inl 3 | some r=>zc4 3 (zet r ps m)):=by show _=_; rw[← uh HD]; unfold doV; simp only; rw[hk,yf (by decide),yf (by decide),yf (by decide),yg rfl,hg]; rfl
   have HM:Hid (GdT m/\(ct m).length<=100000):=⟨hv.get hg,by have:=zcb hv hg; omega⟩
   have HDR:Hid (fs≠[]->∀ wx,SS wx a2 g2 0 (fs.map baT)->∃ r,zbQ v fs=some r/\GdT r/\(ct r).length<=(ct v).length/\Calls prog 95 #[.string (zac (ct v)),.slice a2 fs.length cap2] wx fun e w'=>e = .returned (.string (zac (ct r)))/\Below wx.heap.size wx w'):=fun hne wx h=>znD v m fs a2 g2 0 cap2 wx hne hv hg hl hst hsn hcap2 h
   have HPU:Hid (∀ (r:JV) (wx:World),GdT r->(ct r).length<=(ct v).length->SS wx a1 g1 0 (ps.map baT)->Calls prog 93 #[.string (zac (ct r)),.slice a1 ps.length cap1,.string (zac (ct m))] wx fun e w'=>e = .returned (zsG (zet r ps m))/\Below wx.heap.size wx w'):=fun r wx hr hrl h=>zml r m ps a1 g1 0 cap1 wx hr (uh HM).1 (by omega) (uh HM).2 hpt hpn hcap1 h
   clear hv hl hpn hpt hsn hst hval hk1 hk6 hgn hgs HGT hg HM
   generalize zac (ct m)=sm at *
   go_wp2_with fail
   refine (uh HF3).mono ?_
   rintro e w4 ⟨rfl,b4⟩
   have HD4:=zab ((uh HD3).next b4)
   obtain⟨s10,s11,s12,s13⟩:=(uh HD4).op.c
   have HX4:=zab (uh HH fs ps w4 _ _ _ _ (.inl ⟨rfl,rfl⟩) (uh HD4).t2 (uh HD4).t1)
   clear HF3 b4 HD3 r10 r11 r12 r13
   cases hpre:pre fs ps with
   | true=>
    rw[hpre] at HX4
    go_wp2_with fail
    refine (uh HX4).mono ?_
    rintro e w5 ⟨rfl,b5⟩
    have HD5:=zab ((uh HD4).next b5)
    have HX5:=zab (uh HH ps fs w5 _ _ _ _ (.inr ⟨rfl,rfl⟩) (uh HD5).t1 (uh HD5).t2)
    clear HX4 b5 HD4
    cases hq:pre ps fs with
    | true=>
     rw[hq] at HX5
     rw[yg (zsK hpre hq)] at HE
     clear hpre hq HH HDR HPU
     go_wp2_with fail
     refine (uh HX5).mono ?_
     rintro e w6 ⟨rfl,b6⟩
     have HB6:=zab (zaa (uh HD5).bl b6)
     clear HX5 b6
     go_wp2
     go_ret2
     exact⟨by rw[uh HE]; rfl,uh HB6⟩
    | false=>
     rw[hq] at HX5
     rw[yf (fun e=>by rw[e,znC] at hq; cases hq),yg (by rw[← zkG]; exact hpre)] at HE
     go_wp2_with fail
     refine (uh HX5).mono ?_
     rintro e w6 ⟨rfl,b6⟩
     have HD6:=zab ((uh HD5).next b6)
     have HX6:=zab (uh HH fs ps w6 _ _ _ _ (.inl ⟨rfl,rfl⟩) (uh HD6).t2 (uh HD6).t1)
     rw[hpre] at HX6
     clear HX5 b6 HD5 hpre hq HH HDR HPU
     go_wp2_with fail
     refine (uh HX6).mono ?_
     rintro e w7 ⟨rfl,b7⟩
     have HB7:=zab (zaa (uh HD6).bl b7)
     clear HX6 b7
     go_wp2
     go_ret2
     exact⟨by rw[uh HE]; rfl,uh HB7⟩
   | false=>
    rw[hpre] at HX4
    rw[yf (fun e=>by rw[e,znC] at hpre; cases hpre),yf (by rw[← zkG,hpre]; simp)] at HE
    go_wp2_with fail
    refine (uh HX4).mono ?_
    rintro e w5 ⟨rfl,b5⟩
    have HD5:=zab ((uh HD4).next b5)
    have HX5:=zab (uh HH fs ps w5 _ _ _ _ (.inl ⟨rfl,rfl⟩) (uh HD5).t2 (uh HD5).t1)
    rw[hpre] at HX5
    have hfne:fs≠[]:=fun e=>by rw[e,zkG] at hpre; simp at hpre
    have HDR1:=zab (uh HDR hfne)
    clear HX4 b5 HD4 HDR hfne hpre HH
    go_wp2_with fail
    refine (uh HX5).mono ?_
    rintro e w6 ⟨rfl,b6⟩
    have HD6:=zab ((uh HD5).next b6)
    obtain⟨r,hr,hrg,hrl,hcall⟩:=uh HDR1 w6 (uh HD6).s2
    have HC:=zab hcall
    rw[hr] at HE
    have HPU2:Hid (∀ wx,SS wx a1 g1 0 (ps.map baT)->Calls prog 93 #[.string (zac (ct r)),.slice a1 ps.length cap1,.string sm] wx fun e w'=>e = .returned (zsG (zet r ps m))/\Below wx.heap.size wx w'):=fun wx h=>uh HPU r wx hrg hrl h
    clear HDR1 HPU hr hrg hrl hcall HX5 b6 HD5
    go_wp2_with fail
    refine (uh HC).mono ?_
    rintro e w7 ⟨rfl,b7⟩
    have HB7:=zab (zaa (uh HD6).bl b7)
    have HP:=zab (uh HPU2 w7 ((uh HD6).s1.below b7))
    clear HC b7 HPU2
    cases hpv:zet r ps m
    all_goals (
     rw[hpv] at HP HE
     simp only[zsG] at HP
     clear hpv
     go_wp2_with fail
     refine (uh HP).mono ?_
     rintro e w9 ⟨rfl,b9⟩
     have HB9:=zab (zaa (uh HB7) b9)
     clear HP b9
     go_wp2
     go_ret2
     exact⟨by rw[uh HE]; rfl,uh HB9⟩)
 ·have HF3:=zab (uh HGT fs a2 g2 cap2 w3 (.inr rfl) (uh HD3).s2)
  cases hg:za0 v fs with
  | none=>
   rw[zff hg] at HF3
   have HE:Hid (DO = .inl 3):=by show _=_; rw[← uh HD]; unfold doV; simp only; rw[hk,yf (by decide),yf (by decide),yf (by decide),yf (by decide),yg rfl,hg]
   clear hv hl hpn hpt hsn hst hval hk1 hk6 hgn hgs HGT HH hg
   go_wp2_with fail
   refine (uh HF3).mono ?_
   rintro e w4 ⟨rfl,b4⟩
   have HB4:=zab (zaa (uh HD3).bl b4)
   clear HF3 b4
   go_wp2
   go_ret2
   exact⟨by rw[uh HE]; rfl,uh HB4⟩
  | some m=>
   rw[zbC hg] at HF3
   have HE:Hid (DO=zc4 3 (zet v ps m)):=by show _=_; rw[← uh HD]; unfold doV; simp only; rw[hk,yf (by decide),yf (by decide),yf (by decide),yf (by decide),yg rfl,hg]
   have hlm:=zcb hv hg
   have HPU:Hid (∀ wx,SS wx a1 g1 0 (ps.map baT)->Calls prog 93 #[.string (zac (ct v)),.slice a1 ps.length cap1,.string (zac (ct m))] wx fun e w'=>e = .returned (zsG (zet v ps m))/\Below wx.heap.size wx w'):=fun wx h=>zml v m ps a1 g1 0 cap1 wx hv (hv.get hg) hl (by omega) hpt hpn hcap1 h
   clear hv hl hpn hpt hsn hst hval hk1 hk6 hgn hgs HGT HH hg hlm
   generalize zac (ct m)=sm at *
   go_wp2_with fail
   refine (uh HF3).mono ?_
   rintro e w4 ⟨rfl,b4⟩
   have HD4:=zab ((uh HD3).next b4)
   obtain⟨s10,s11,s12,s13⟩:=(uh HD4).op.c
   have HP:=zab (uh HPU w4 (uh HD4).s1)
   clear HF3 b4 HD3 HPU r10 r11 r12 r13
   cases hpv:zet v ps m
   all_goals (
    rw[hpv] at HP HE
    simp only[zsG] at HP
    clear hpv
    go_wp2_with fail
    refine (uh HP).mono ?_
    rintro e w9 ⟨rfl,b9⟩
    have HB9:=zab (zaa (uh HD4).bl b9)
    clear HP b9
    go_wp2
    go_ret2
    exact⟨by rw[uh HE]; rfl,uh HB9⟩)
 ·clear HH HGT
  cases hg:za0 v ps with
  | none=>
   obtain rfl:=hgn hg
   have HE:Hid (DO = .inl 3):=by
    show _=_
    rw[← uh HD]
    unfold doV
    simp only
    rcases hk with hk | hk | hk
    ·rw[hk,yf (by decide),yg rfl,zoN hg]; rfl
    ·rw[hk,yf (by decide),yf (by decide),yg rfl]; unfold zd2; rw[hg]; rfl
    ·rw[hk,yf (by decide),yf (by decide),yf (by decide),yf (by decide),yf (by decide),hg]
   clear hv hl hpn hpt hsn hst hval hk1 hk6 hgn hgs hg
   rcases hk with hk | hk | hk
   all_goals (
    go_wp2
    go_ret2
    exact⟨by rw[uh HE]; rfl,(uh HD3).bl⟩)
  | some c=>
   obtain⟨rfl,rfl⟩:=hgs c hg
   clear hgn hgs
   rcases hk with hk | hk | hk
   ·by_cases h0:ps=[]
    ·subst h0
     have HE:Hid (DO = .inl 3):=by show _=_; rw[← uh HD]; unfold doV; simp only; rw[hk,yf (by decide),yg rfl]; rfl
     clear hv hl hpn hpt hsn hst hval hk1 hk6 hg
     go_wp2
     go_ret2
     exact⟨by rw[uh HE]; rfl,(uh HD3).bl⟩
    ·have hpos:¬ ps.length=0:=fun h=>h0 (yN h)
     have hposI:((ps.length:Int) == 0)=false:=by rw[yd]; omega
     obtain⟨r,hr,-,-,hcall⟩:=znD v c ps a1 g1 0 cap1 w3 h0 hv hg hl hpt hpn hcap1 (uh HD3).s1
     have HC:=zab hcall
     have HE:Hid (DO = .inr r):=by show _=_; rw[← uh HD]; unfold doV; simp only; rw[hk,yf (by decide),yg rfl,hr]; rfl
     clear hv hl hpn hpt hsn hst hval hk1 hk6 hg h0 hpos hr hcall
     generalize zac (ct c)=sc at *
     go_wp2_with fail
     refine (uh HC).mono ?_
     rintro e w4 ⟨rfl,b4⟩
     have HB4:=zab (zaa (uh HD3).bl b4)
     clear HC b4
     go_wp2
     go_ret2
     exact⟨by rw[uh HE]; rfl,uh HB4⟩
   ·obtain⟨e1,e2,e3⟩:=hval (by rw[hk]; rfl)
    have hsl:=zci (u:=u) hv hg
    have HC:=zab (zex ps v u c a1 g1 0 cap1 w3 hv e2 hg hl (by omega) hpt hpn hcap1 (uh HD3).s1)
    rw[← e1] at HC
    have HE:Hid (DO = .inr (zcT v ps u)):=by show _=_; rw[← uh HD]; unfold doV; simp only; rw[hk,yf (by decide),yf (by decide),yg rfl]; unfold zd2; rw[hg]; rfl
    clear hv hl hpn hpt hsn hst hval hk1 hk6 hg hsl e1 e2 e3
    generalize zac (ct c)=sc at *
    go_wp2_with fail
    refine (uh HC).mono ?_
    rintro e w4 ⟨rfl,b4⟩
    have HB4:=zab (zaa (uh HD3).bl b4)
    clear HC b4
    go_wp2
    go_ret2
    exact⟨by rw[uh HE]; rfl,uh HB4⟩
   ·have hse:=zi0 (ct c) (ct u)
    rw[← (hval (by rw[hk]; rfl)).1] at hse
    have HE:Hid (DO=if ct c=ct u then .inr v else .inl 5):=by show _=_; rw[← uh HD]; unfold doV; simp only; rw[hk,yf (by decide),yf (by decide),yf (by decide),yf (by decide),yf (by decide),hg]
    clear hv hl hpn hpt hsn hst hval hk1 hk6 hg
    by_cases he:ct c=ct u
    ·rw[yC.2 he] at hse
     rw[yg he] at HE
     clear he
     generalize zac (ct c)=sc at *
     go_wp2
     go_ret2
     exact⟨by rw[uh HE]; rfl,(uh HD3).bl⟩
    ·rw[yd.2 he] at hse
     rw[yf he] at HE
     clear he
     generalize zac (ct c)=sc at *
     go_wp2
     go_ret2
     exact⟨by rw[uh HE]; rfl,(uh HD3).bl⟩
def zpE (m:POp) : JV:=match zaZ m.val with
 | .inr u=>u
 | .inl _=>.nul
def xOp (m:POp) : XOp:=xOf m (zpE m)
def apR (s:ByteArray) (ms:List POp) : ByteArray×Int×Int:=match zaZ s with
 | .inl _=>(⟨#[]⟩,1,0)
 | .inr v=>if 0<=zep ms then (⟨#[]⟩,2,zep ms) else match zkh v (ms.map xOp) 0 with
  | .inl ci=>(⟨#[]⟩,(ci.1:Int),(ci.2:Int))
  | .inr r=>(zac (ct r),0,0)
theorem znE {m:POp} (h:zdv m=true) : 1<=m.kind/\m.kind<=6/\(zc9 m.kind=true->zaZ m.val = .inr (zpE m)/\m.val=zac (ct (zpE m))/\GdV (zpE m)):=by
 unfold zdv at h
 simp only[Bool.and_eq_true,decide_eq_true_eq] at h
 refine⟨h.1.1.1.1,h.1.1.1.2,fun hv=>?_⟩
 have h5:=h.2
 rw[yg hv,zkq] at h5
 obtain⟨u,h1,h2⟩:=h5
 have e:zpE m=u:=by unfold zpE; rw[h1]
 rw[e]
 exact⟨h1,h2.symm,GdV.of h1⟩
theorem znF {ms:List POp} (h:¬ 0<=zep ms) : ms.length<=100/\∀ m∈ms,zdv m=true:=by
 unfold zep at h
 split at h
 ·exact absurd (by omega) h
 ·rename_i hl
  split at h
  ·rename_i i _
   exact absurd (by omega) h
  ·rename_i hf
   rw[List.findIdx?_eq_none_iff] at hf
   exact⟨by omega,fun m hm=>by have:=hf m hm; simpa using this⟩
theorem zfj (v:JV) : zpD v=true↔zaY v<=100/\zaA v<=3000/\(ct v).length<=20000:=by
 unfold zpD; simp[and_assoc]
theorem GdT.lim {v:JV} (h:GdT v) (hl:zpD v=true) : GdV v:=by
 obtain⟨a,b,c⟩:=(zfj v).1 hl
 exact⟨h.rd,h.big,a,b,h.tw,h.ok,c⟩
theorem zjp {v u r:JV} {ts:List (List UInt8)} (hv:GdT v) (h:zet v ts u=some r) : (ct r).length<=(ct v).length+(ct u).length+6*(zcP ts).length+4:=by
 unfold zet at h
 split at h
 ·injection h with h; subst h; omega
 ·unfold zd2 at h
  obtain⟨x,hx,rfl⟩:=yz.1 h
  obtain⟨y,hy,hp⟩:=Option.bind_eq_some_iff.1 hx
  have h1:=zhb (hv.get hy) hp
  have h2:=zci (u:=x) hv hy
  omega
theorem zhf {v r:JV} {ts:List (List UInt8)} (hv:GdT v) (h:zbQ v ts=some r) : (ct r).length<=(ct v).length:=by
 unfold zbQ at h
 split at h
 ·cases h
 ·unfold zd2 at h
  obtain⟨x,hx,rfl⟩:=yz.1 h
  obtain⟨y,hy,hp⟩:=Option.bind_eq_some_iff.1 hx
  unfold zdc at hp
  obtain⟨c,hc,rfl⟩:=yz.1 hp
  have h1:=zf2 hc
  have h2:=zci (u:=za6 y (zcP ts)) hv hy
  omega
theorem zsL {ts:List (List UInt8)} {n:Nat} (h:∀ x∈ts,x.length<=n) : (zcP ts).length<=n:=by
 unfold zcP
 cases hl:ts.getLast? with
 | none=>simp
 | some x=>exact h x (List.mem_of_getLast? hl)
theorem zqq {v r:JV} {o:XOp} (hv:GdT v) (h:doV v o = .inr r) (hp:∀ x∈o.path,x.length<=1048576) : (ct r).length<=(ct v).length+max (ct v).length (ct o.val).length+6*1048576+4:=by
 have hlast:=zsL hp
 unfold doV at h
 split at h
 ·have:=zjp hv (zbz h)
  omega
 ·split at h
  ·have:=zhf hv (zbz h)
   omega
  ·split at h
   ·have h1:=zbz h
    unfold zd2 at h1
    obtain⟨x,hx,rfl⟩:=yz.1 h1
    obtain⟨y,hy,hp⟩:=Option.bind_eq_some_iff.1 hx
    injection hp with hp
    subst hp
    have h2:=zci (u:=o.val) hv hy
    omega
   ·split at h
    ·split at h
     ·cases h
     ·rename_i m hm
      have hml:=zcb hv hm
      split at h
      ·injection h with h; subst h; omega
      ·split at h
       ·cases h
       ·split at h
        ·cases h
        ·rename_i x hx
         have h1:=zjp (zdd hv hx) (zbz h)
         have h2:=zhf hv hx
         omega
    ·split at h
     ·split at h
      ·cases h
      ·rename_i m hm
       have hml:=zcb hv hm
       have h1:=zjp hv (zbz h)
       omega
     ·split at h
      ·cases h
      ·split at h
       ·injection h with h; subst h; omega
       ·cases h
theorem zmm:∀ (n:Nat) (v:JV),zaY v<=n->okV v->zaA v<=(ct v).length
 | 0,v,h,_=>by have:=(zeh v).2; omega
 | n+1,v,h,hok=>by
  cases v with
  | arr l=>
   rw[okV,zjl] at hok
   have h1:=zj8 (.arr l)
   have h2:((zh4 (.arr l)).map fun q=>zaA q.2).sum=(l.toL.map zaA).sum:=by
    show ((ziv 0 l.toL).map fun q=>zaA q.2).sum=_
    rw[show (fun q:List UInt8×JV=>zaA q.2)=zaA∘(·.2) from rfl,← List.map_map,zgO]
   have h3:(l.toL.map zaA).sum<=(l.toL.map fun v=>(ct v).length).sum:=zhc _ _ _ fun u hu=>zmm n u (by
    have:=zly l.toL u hu
    rw[zaY,ze5] at h
    omega) (hok u hu)
   rw[zdf]
   unfold hold
   omega
  | obj m=>
   rw[okV,zjm] at hok
   have h1:=zj8 (.obj m)
   have h2:((zh4 (.obj m)).map fun q=>zaA q.2).sum=(m.toL.map fun q=>zaA q.2).sum:=((zdP m.toL).map _).sum_nat
   have h3:(m.toL.map fun q=>zaA q.2).sum<=(m.toL.map zdT).sum:=zhc _ _ _ fun q hq=>by
    have:=zmm n q.2 (by
     have:=zly (m.toL.map (·.2)) q.2 (yO.2 ⟨q,hq,rfl⟩)
     rw[zaY,zdL] at h
     omega) (hok q hq).2
    unfold zdT
    omega
   rw[zbd]
   unfold hold
   omega
  | _=>
   have:=zd0 hok
   rw[zaf] at this
   simp only[zaA]
   omega
def zjq (v:JV) (xs:List XOp) (k:Nat) (u:JV) : Prop:=zkh v xs 0=zkh u (xs.drop k) k/\GdV u
theorem ziH {v u r:JV} {xs:List XOp} {k:Nat} (h:zjq v xs k u) (hk:k < xs.length) (hd:doV u xs[k] = .inr r) (hr:GdT r) (hl:zpD r=true) : zjq v xs (k+1) r:=by
 refine⟨?_,hr.lim hl⟩
 rw[h.1,List.drop_eq_getElem_cons hk,zkh,hd]
 simp only
 rw[yg hl]
theorem ziI {v u:JV} {xs:List XOp} {k c:Nat} (h:zjq v xs k u) (hk:k < xs.length) (hd:doV u xs[k] = .inl c) : zkh v xs 0 = .inl (c,k):=by
 rw[h.1,List.drop_eq_getElem_cons hk,zkh,hd]
theorem zhg {v u r:JV} {xs:List XOp} {k:Nat} (h:zjq v xs k u) (hk:k < xs.length) (hd:doV u xs[k] = .inr r) (hl:zpD r=false) : zkh v xs 0 = .inl (7,k):=by
 rw[h.1,List.drop_eq_getElem_cons hk,zkh,hd]
 simp only
 rw[hl]
 rfl
theorem zkH {v u:JV} {xs:List XOp} {k:Nat} (h:zjq v xs k u) (hk:¬ k < xs.length) : zkh v xs 0 = .inr u:=by
 rw[h.1,List.drop_of_length_le (by omega),zkh]
theorem znG {v:JV} {o:XOp} {c:Nat} (h:doV v o = .inl c) : c≠0:=by
 have hopt:∀ {x:Option JV},zc4 3 x = .inl c->c≠0:=fun {x} h=>by
  cases x with
  | none=>injection h with h; omega
  | some y=>cases h
 unfold doV at h
 repeat' split at h
 all_goals first | exact hopt h | (injection h with h; omega) | cases h
theorem zva:GdT .nul:=⟨by rw[rdV]; trivial,rfl,rfl,by rw[okV]; trivial⟩
theorem zhh (m:POp) : GdT (zpE m)/\(ct (zpE m)).length<=20000:=by
 unfold zpE
 cases h:zaZ m.val with
 | inl c=>exact⟨zva,by show (ct .nul).length<=20000; decide⟩
 | inr u=>have:=GdV.of h; exact⟨this.t,this.len⟩
theorem zmn {r:JV} (hl:(ct r).length<=20000) : zpD r=decide (zaY r<=100/\zaA r<=3000):=by
 rw[Bool.eq_iff_iff,zfj,decide_eq_true_iff]
 constructor
 ·rintro⟨a,b,_⟩; exact⟨a,b⟩
 ·rintro⟨a,b⟩; exact⟨a,b,hl⟩
theorem zqr {r:JV} (hl:¬ (ct r).length<=20000) : zpD r=false:=by
 cases h:zpD r with
 | false=>rfl
 | true=>exact absurd ((zfj r).1 h).2.2 hl
theorem zii (s:ByteArray) (val:Value) (ms:List POp) (bl:List Nat) (w:World) (hrow:zbt opE w val ms bl) (hin:zsq ms) (hs:s.size<=1048576) :
  Calls prog 24 #[.string s,val] w fun e w'=>e = .returned (.tuple #[.string (apR s ms).1,.int .i64 (apR s ms).2.1,.int .i64 (apR s ms).2.2])/\Below w.heap.size w w':=by
 have HCN:=zab (zcY s w hs)
 obtain⟨xa,xc,rfl,h1,hxa⟩:=hrow.form
 cases hr:zaZ s with
 | inl c=>
  have hc:=zfG hr
  have HR:Hid (apR s ms=(⟨#[]⟩,1,0)):=by show _=_; unfold apR; rw[hr]
  have e:za5 s = .tuple #[.string ⟨#[]⟩,.int .i64 (c:Int)]:=by unfold za5; rw[hr]
  rw[e] at HCN
  have t2:((c:Int) != 0)=true:=by simp; omega
  clear hr e hc hrow hin hs h1 hxa
  go_enter func24,ntmps24
  go_wp2_with fail
  refine (uh HCN).mono ?_
  rintro e w1 ⟨rfl,b1⟩
  have HB1:=zab b1
  clear HCN b1
  go_wp2
  go_ret3
  exact⟨by rw[uh HR]; rfl,uh HB1⟩
 | inr v=>
  have hg:=GdV.of hr
  have e:za5 s = .tuple #[.string (zac (ct v)),.int .i64 0]:=by unfold za5; rw[hr]
  rw[e] at HCN
  have HFB:Hid (∀ wx,Below w.heap.size w wx->Calls prog 49 #[.slice xa ms.length xc] wx fun e w'=>e = .returned (.int .i64 (zep ms))/\Below wx.heap.size wx w'):=fun wx hx=>zjh _ ms bl wx (hrow.below hx) hin
  by_cases hb:0<=zep ms
  ·have HR:Hid (apR s ms=(⟨#[]⟩,2,zep ms)):=by show _=_; unfold apR; rw[hr]; simp only; rw[yg hb]
   clear hr e hg hrow hin hs h1 hxa
   generalize zep ms=z at *
   generalize zac (ct v)=sv at *
   go_enter func24,ntmps24
   go_wp2_with fail
   refine (uh HCN).mono ?_
   rintro e w1 ⟨rfl,b1⟩
   have HF1:=zab (uh HFB w1 b1)
   have HB1:=zab b1
   clear HCN b1 HFB
   go_wp2_with fail
   refine (uh HF1).mono ?_
   rintro e w2 ⟨rfl,b2⟩
   have HB2:=zab (zaa (uh HB1) b2)
   clear HF1 b2
   go_wp2
   go_ret3
   exact⟨by rw[uh HR]; rfl,uh HB2⟩
  ·obtain⟨hl100,hall⟩:=znF hb
   have HR1:Hid (∀ c k,zkh v (ms.map xOp) 0 = .inl (c,k)->apR s ms=(⟨#[]⟩,(c:Int),(k:Int))):=fun c k h=>by unfold apR; rw[hr]; simp only; rw[yf hb,h]
   have HR2:Hid (∀ r,zkh v (ms.map xOp) 0 = .inr r->apR s ms=(zac (ct r),0,0)):=fun r h=>by unfold apR; rw[hr]; simp only; rw[yf hb,h]
   have HDO:Hid (∀ (k:Nat) (hk:k < ms.length) (u:JV) (wx:World),GdV u->Calls prog 50 #[.string (zac (ct u)),.agg (zf4 ms[k])] wx fun e w'=>e = .returned (doR (doV u (xOp ms[k])))/\Below wx.heap.size wx w'):=fun k hk u wx hu=>by
    obtain⟨a,b,c⟩:=znE (hall _ (yr hk))
    obtain⟨i1,i2,i3⟩:=hin _ (yr hk)
    exact zu9 u (zpE ms[k]) ms[k] wx hu.t (by have:=hu.len; omega) i1 i2 a b (fun hv=>by
     obtain⟨_,q2,q3⟩:=c hv
     exact⟨q2,q3.t,by have:=q3.len; omega⟩)
   have HGD:Hid (∀ (k:Nat) (hk:k < ms.length) (u r:JV),GdV u->doV u (xOp ms[k]) = .inr r->GdT r/\(ct r).length<=20000000):=fun k hk u r hu hd=>by
    obtain⟨hvg,hvl⟩:=zhh ms[k]
    obtain⟨i1,i2,i3⟩:=hin _ (yr hk)
    have h1:=znu (o:=xOp ms[k]) hu.t hvg hd
    have h2:=zqq (o:=xOp ms[k]) hu.t hd (zjo ms[k].path i1).2
    have h3:=hu.len
    have h4:(ct (xOp ms[k]).val).length<=20000:=hvl
    exact⟨h1,by omega⟩
   have HRW:=zab hrow
   have hxl:(ms.map xOp).length=ms.length:=yl _
   have HXA:=zab hxa
   have HT0:Hid (zjq v (ms.map xOp) 0 v):=⟨rfl,hg⟩
   have hbI:¬ (0:Int)<=zep ms:=hb
   clear hr e hg hrow hin hs h1 hxa hall hb
   generalize zep ms=z at *
   go_enter func24,ntmps24
   go_wp2_with fail
   refine (uh HCN).mono ?_
   rintro e w1 ⟨rfl,b1⟩
   have HF1:=zab (uh HFB w1 b1)
   have HB1:=zab b1
   clear HCN b1 HFB
   go_wp2_with fail
   refine (uh HF1).mono ?_
   rintro e w2 ⟨rfl,b2⟩
   have HB2:=zab (zaa (uh HB1) b2)
   clear HF1 b2 HB1
   go_wp2
   go_loopw [7,10] (fun tv i wr=>∃ (k:Nat) (u:JV),k<=ms.length/\i = .int .i64 (k:Int)/\tv = .string (zac (ct u))/\zjq v (ms.map xOp) k u/\Below w.heap.size w wr) (fun _ i _=>ms.length - (intOf i).toNat)
   case atStart=>exact⟨0,v,yt _,rfl,rfl,uh HT0,uh HB2⟩
   case round=>
    obtain⟨k,u,hk,rfl,rfl,hrun,hb⟩:=hrel
    have HRUN:=zab hrun
    have HBR:=zab hb
    clear HT0 HB2
    by_cases hlt:k < ms.length
    ·have hltI:(k:Int) < (ms.length:Int):=by omega
     obtain⟨g,rfl⟩:=uh HXA (by omega)
     obtain⟨vs,ib,hE,hcc,_⟩:=((uh HRW).below hb).at (yx hlt)
     obtain⟨rfl,_⟩:=hE
     have c0:wr.cell? ⟨g,k*4,none⟩=some (.int .i64 ms[k].kind):=(hcc 0 _ rfl).1
     have c1:wr.cell? ⟨g,k*4+1,none⟩=some (.string ms[k].path):=(hcc 1 _ rfl).1
     have c2:wr.cell? ⟨g,k*4+2,none⟩=some (.string ms[k].src):=(hcc 2 _ rfl).1
     have c3:wr.cell? ⟨g,k*4+3,none⟩=some (.string ms[k].val):=(hcc 3 _ rfl).1
     have HD:=zab (uh HDO k hlt u wr hrun.2)
     have hxk:(ms.map xOp)[k]'(by rw[hxl]; exact hlt)=xOp ms[k]:=by simp
     have hkx:k < (ms.map xOp).length:=by omega
     cases hdo:doV u (xOp ms[k]) with
     | inl c=>
      rw[hdo] at HD
      rw[show doR (.inl c) = .tuple #[.string ⟨#[]⟩,.int .i64 (c:Int)] from rfl] at HD
      have hc0:=znG hdo
      have HRES:=zab (uh HR1 c k (ziI hrun hkx (by rw[hxk]; exact hdo)))
      have t2:((c:Int) != 0)=true:=by simp; omega
      clear hcc hrun hb hdo HDO HGD HR1 HR2 hxk hkx hxl hc0
      go_wp2_with fail
      refine (uh HD).mono ?_
      rintro e w3 ⟨rfl,b3⟩
      have HB3:=zab (zaa (uh HBR) b3)
      clear HD b3 c0 c1 c2 c3
      go_wp2
      go_ret3
      exact⟨by rw[uh HRES]; rfl,uh HB3⟩
     | inr r=>
      rw[hdo] at HD
      rw[show doR (.inr r) = .tuple #[.string (zac (ct r)),.int .i64 0] from rfl] at HD
      obtain⟨hrg,hrl⟩:=uh HGD k hlt u r hrun.2 hdo
      by_cases hlen:(ct r).length<=20000
      ·have tl:¬ (20000:Int) < ((zac (ct r)).size:Int):=by rw[zaf]; omega
       have hcn:=zmm (zaY r) r (ye _) hrg.ok
       have HW:Hid (∀ wx,Calls prog 51 #[.string (zac (ct r))] wx fun e w'=>e = .returned (.bool (zpD r))/\Below wx.heap.size wx w'):=fun wx=>by
        have:=zlN r hrg.ok wx (by omega) (by omega)
        rw[zmn hlen]
        exact this
       cases hlim:zpD r with
       | true=>
        rw[hlim] at HW
        have HNX:=zab (ziH hrun hkx (by rw[hxk]; exact hdo) hrg hlim)
        clear hcc hrun hb hdo HDO HGD HR1 HR2 hxk hkx hxl hrg hrl hlen hcn hlim
        generalize hsr:zac (ct r)=sr at *
        have HSR:=zab hsr
        clear hsr
        go_wp2_with fail
        refine (uh HD).mono ?_
        rintro e w3 ⟨rfl,b3⟩
        have HB3:=zab (zaa (uh HBR) b3)
        have HW3:=zab (uh HW w3)
        clear HD HW b3 c0 c1 c2 c3
        go_wp2_with fail
        refine (uh HW3).mono ?_
        rintro e w4 ⟨rfl,b4⟩
        have HB4:=zab (zaa (uh HB3) b4)
        clear HW3 b4
        go_wp2
        go_roundw
        case rel=>exact⟨k+1,r,by omega,by go_num,by rw[uh HSR],uh HNX,uh HB4⟩
        case measure=>simp[intOf]; omega
       | false=>
        rw[hlim] at HW
        have HRES:=zab (uh HR1 7 k (zhg hrun hkx (by rw[hxk]; exact hdo) hlim))
        clear hcc hrun hb hdo HDO HGD HR1 HR2 hxk hkx hxl hrg hrl hlen hcn hlim
        generalize zac (ct r)=sr at *
        go_wp2_with fail
        refine (uh HD).mono ?_
        rintro e w3 ⟨rfl,b3⟩
        have HB3:=zab (zaa (uh HBR) b3)
        have HW3:=zab (uh HW w3)
        clear HD HW b3 c0 c1 c2 c3
        go_wp2_with fail
        refine (uh HW3).mono ?_
        rintro e w4 ⟨rfl,b4⟩
        have HB4:=zab (zaa (uh HB3) b4)
        clear HW3 b4
        go_wp2
        go_ret3
        exact⟨by rw[uh HRES]; rfl,uh HB4⟩
      ·have tl:(20000:Int) < ((zac (ct r)).size:Int):=by rw[zaf]; omega
       have HRES:=zab (uh HR1 7 k (zhg hrun hkx (by rw[hxk]; exact hdo) (zqr hlen)))
       clear hcc hrun hb hdo HDO HGD HR1 HR2 hxk hkx hxl hrg hrl hlen
       generalize zac (ct r)=sr at *
       go_wp2_with fail
       refine (uh HD).mono ?_
       rintro e w3 ⟨rfl,b3⟩
       have HB3:=zab (zaa (uh HBR) b3)
       clear HD b3 c0 c1 c2 c3
       go_wp2
       go_ret3
       exact⟨by rw[uh HRES]; rfl,uh HB3⟩
    ·have hltI:¬ (k:Int) < (ms.length:Int):=by omega
     have HRES:=zab (uh HR2 u (zkH hrun (by omega)))
     clear hrun hb HDO HGD HR1 HR2 hxl
     go_wp2
     go_ret3
     exact⟨by rw[uh HRES]; rfl,uh HBR⟩
abbrev zsM (t:List UInt8) : Obj:=.cells #[.string (zac t)] 9 (0,0)
theorem zij (ob:Nat) (t:List UInt8) (s:List UInt8) (c1 c2 c3 c4 c5 c6:Value) (w:World) (h:w.heap[ob]?=some (zsM t)) :
  Calls prog 134 #[.agg #[.string (zac s),c1,c2,c3,c4,c5,c6],.pointer (some ⟨ob,0,none⟩)] w fun e w'=>e = .returned (.bool (s == t))/\Below w.heap.size w w':=by
 have hlt:ob < w.heap.size:=(yB.1 h).1
 have k:∀ o,(w.alloc o).cell? ⟨ob,0,none⟩=some (.string (zac t)):=fun o=>yF (((zag w o).block ob hlt).trans h) 0
 have he:=zi0 s t
 rw[← he]
 clear h he
 generalize zac s=sb at *
 generalize zac t=tb at *
 go_enter func134,ntmps134
 go_wp2
 go_ret
 exact⟨rfl,zag w _⟩
theorem zhi (g ob:Nat) (t:List UInt8) (w:World) (hg:w.heap[g]?=some (.cells zba 202 (0,0))) (h:w.heap[ob]?=some (zsM t)) :
  Calls prog 161 #[.slice (some ⟨g,0,none⟩) 6 6,.func (Fn.func 134) #[] #[.pointer (some ⟨ob,0,none⟩)]] w fun e w'=>e = .returned (.int .i64 (zdS (zaM t)))/\Below w.heap.size w w':=by
 have HG:=zab hg
 have HO:=zab h
 clear hg h
 go_enter func161,ntmps161
 go_wp2_with fail
 go_loopw [8] (fun i wr=>∃ j:Nat,j<=6/\i = .int .i64 (j:Int)/\Below w.heap.size w wr/\∀ n:Nat,n < j->¬ (zaM t)=(n:Int)+1) (fun i _=>6 - (intOf i).toNat)
 case atStart=>exact⟨0,by omega,rfl,yH _ _,fun n hn=>by omega⟩
 case round=>
  obtain⟨j,hj,rfl,hb,hn⟩:=hrel
  by_cases hlt:j < 6
  ·have hg:=(hb.block g (yB.1 (uh HG)).1).trans (uh HG)
   have ho:=(hb.block ob (yB.1 (uh HO)).1).trans (uh HO)
   obtain⟨q0,q1,q2,q3,q4,q5,q6⟩:=zf3 hg hlt rfl
   have HM:=zab (zij ob t (zcZ ((j:Int)+1)) (.int .i64 ((j:Int)+1)) (.bool (zfN ((j:Int)+1))) (.bool (zc9 ((j:Int)+1))) (.bool (shF ((j:Int)+1))) (.bool (shP ((j:Int)+1))) (zd4 ((j:Int)+1)) wr ho)
   rw[zg6 (t:=t) (k:=(j:Int)+1) (by omega) (by omega)] at HM
   obtain⟨fid,hfid⟩ : ∃ fid,zd4 ((j:Int)+1) = .func (Fn.func fid) #[] #[]:=by
    unfold zd4
    repeat' split
    all_goals exact⟨_,rfl⟩
   rw[hfid] at HM q6
   clear hfid
   unfold zjn at q0
   generalize zac (zcZ ((j:Int)+1))=wb at *
   generalize zfN ((j:Int)+1)=hf at *
   generalize zc9 ((j:Int)+1)=hv at *
   generalize shF ((j:Int)+1)=sf at *
   generalize shP ((j:Int)+1)=sp at *
   have HN:=zab hn
   clear hg ho hn
   go_wp2_with fail
   refine (uh HM).mono ?_
   rintro e w1 ⟨rfl,b1⟩
   have HB1:=zab (zaa hb b1)
   clear HM b1 hb q0 q1 q2 q3 q4 q5 q6
   by_cases hk:(j:Int)+1=(zaM t)
   ·have hk1:(((j:Int)+1) == (zaM t))=true:=by simpa using hk
    rw[hk1]
    have hv:zdS (zaM t)=(j:Int):=by unfold zdS; rw[yg (by omega)]; omega
    have HV:=zab hv
    clear hk hk1 hv
    go_wp2
    go_ret
    exact⟨by rw[uh HV]; rfl,uh HB1⟩
   ·have hk1:(((j:Int)+1) == (zaM t))=false:=by simpa using hk
    rw[hk1]
    have HNE:Hid (∀ n:Nat,n < j+1->¬ (zaM t)=(n:Int)+1):=fun n hn e=>by
     by_cases hnj:n=j
     ·subst hnj; exact hk e.symm
     ·exact uh HN n (by omega) e
    clear hk hk1
    go_wp2
    go_roundw
    case rel=>exact⟨j+1,by omega,by go_num,uh HB1,uh HNE⟩
    case measure=>simp[intOf]; omega
  ·have hv:zdS (zaM t) = -1:=by
    unfold zdS
    rw[yf]
    intro ⟨h1,h2⟩
    exact hn ((zaM t) - 1).toNat (by omega) (by omega)
   have HV:=zab hv
   clear hv hn
   go_wp2
   go_ret
   exact⟨by rw[uh HV]; rfl,hb⟩
theorem zqs (ob:Nat) (t:List UInt8) (w:World) (h:w.heap[ob]?=some (zsM t)) (h1:1<=(zaM t)) (h2:(zaM t)<=6) :
  Calls prog 133 #[.func (Fn.func 134) #[] #[.pointer (some ⟨ob,0,none⟩)]] w fun e w'=>e = .returned (.tuple #[.agg (zoL (zaM t)),.bool true])/\Below w.heap.size w w':=by
 have hlt:ob < w.heap.size:=(yB.1 h).1
 obtain⟨j,hj,hk⟩ : ∃ j:Nat,j < 6/\(zaM t)=(j:Int)+1:=⟨((zaM t) - 1).toNat,by omega,by omega⟩
 have hvi:zdS (zaM t)=(j:Int):=by unfold zdS; rw[yg ⟨h1,h2⟩]; omega
 have hvc:=fun (w:World) (g:Nat) (hg:w.heap[g]?=some (.cells zba 202 (0,0)))=>zf3 hg hj hk
 have hvF:∃ fid,zd4 (zaM t) = .func (Fn.func fid) #[] #[]:=by
  unfold zd4
  repeat' split
  all_goals exact⟨_,rfl⟩
 obtain⟨fid,hfid⟩:=hvF
 unfold zoL
 rw[hfid] at hvc ⊢
 generalize zjn (zaM t)=wb at *
 generalize zfN (zaM t)=hf at *
 generalize zc9 (zaM t)=hv at *
 generalize shF (zaM t)=sf at *
 generalize shP (zaM t)=sp at *
 have HVC:=zab hvc
 have HVI:=zab hvi
 clear hvc hvi hfid
 have hA:=zag w (.cells zcw 202)
 have kA:=yG w (.cells zcw 202)
 have zA:(w.alloc (.cells zcw 202)).heap.size=w.heap.size+1:=by simp
 have HO:=zab ((hA.block ob hlt).trans h)
 have HV:=zab (zeC (w.alloc (.cells zcw 202)))
 have HA:=zab hA
 have HKA:=zab kA
 clear h hA kA
 go_enter func133,ntmps133
 go_wp2_with fail
 unfold zcw at *
 generalize (w.alloc (.cells #[.string ⟨#[]⟩,.int .i64 0,.bool false,.bool false,.bool false,.bool false,.nilFunc] 202))=wA at *
 refine (uh HV).mono ?_
 rintro e w1 ⟨rfl,rfl⟩
 have hB:=zag wA (.cells zba 202)
 have kB:=yG wA (.cells zba 202)
 have zB:(wA.alloc (.cells zba 202)).heap.size=wA.heap.size+1:=by simp
 have HX:=zab (zhi wA.heap.size ob t (wA.alloc (.cells zba 202)) kB ((hB.block ob (by omega)).trans (uh HO)))
 have HKB:=zab kB
 have HAB:=zab (zaa (uh HA) hB)
 have HKC:=zab ((hB.block w.heap.size (by omega)).trans (uh HKA))
 have HZA:=zab zA
 have HZB:=zab zB
 clear HV hB kB HO HKA zA zB
 generalize (wA.alloc (.cells zba 202))=wB at *
 generalize wA.heap.size=G at *
 go_wp2_with fail
 refine (uh HX).mono ?_
 rintro e w2 ⟨rfl,b2⟩
 rw[uh HVI]
 have zA:=uh HZA
 have zB:=uh HZB
 have k2:=(b2.block G (by omega)).trans (uh HKB)
 obtain⟨q0,q1,q2,q3,q4,q5,q6⟩:=uh HVC _ _ k2
 have k3:=(b2.block w.heap.size (by omega)).trans (uh HKC)
 have c0:w2.cell? ⟨w.heap.size,0,none⟩=some (.string ⟨#[]⟩):=yF k3 0
 have c1:w2.cell? ⟨w.heap.size,1,none⟩=some (.int .i64 0):=yF k3 1
 have c2:w2.cell? ⟨w.heap.size,2,none⟩=some (.bool false):=yF k3 2
 have c3:w2.cell? ⟨w.heap.size,3,none⟩=some (.bool false):=yF k3 3
 have c4:w2.cell? ⟨w.heap.size,4,none⟩=some (.bool false):=yF k3 4
 have c5:w2.cell? ⟨w.heap.size,5,none⟩=some (.bool false):=yF k3 5
 have c6:w2.cell? ⟨w.heap.size,6,none⟩=some .nilFunc:=yF k3 6
 have fz:=yI k3
 have HK3:=zab k3
 have HB2:=zab (zaa (uh HAB) b2)
 clear HX HAB HKB HKC k2 k3 b2 zA zB HVC HVI h1 h2
 clear hk
 have hjI:(j:Int) < 6:=by omega
 go_wp2
 refine bodyPost_ret (zam rfl _ _ w.heap.size 202 #[_,_,_,_,_,_,_] (0,0) _ _ rfl rfl (zat (uh HK3) [_,_,_,_,_,_,_] rfl) underlying202 rfl (by kernel_rfl)) rfl ?_
 exact⟨rfl,zah (uh HB2) (ye _) [_,_,_,_,_,_,_] 0⟩
theorem zsN (ob:Nat) (t:List UInt8) (w:World) (h:w.heap[ob]?=some (zsM t)) (hno:¬ (1<=(zaM t)/\(zaM t)<=6)) :
  Calls prog 133 #[.func (Fn.func 134) #[] #[.pointer (some ⟨ob,0,none⟩)]] w fun e w'=>e = .returned (.tuple #[.agg zcw,.bool false])/\Below w.heap.size w w':=by
 have hlt:ob < w.heap.size:=(yB.1 h).1
 have hvi:zdS (zaM t) = -1:=by unfold zdS; rw[yf hno]
 have HVI:=zab hvi
 clear hvi hno
 have hA:=zag w (.cells zcw 202)
 have kA:=yG w (.cells zcw 202)
 have zA:(w.alloc (.cells zcw 202)).heap.size=w.heap.size+1:=by simp
 have HO:=zab ((hA.block ob hlt).trans h)
 have HV:=zab (zeC (w.alloc (.cells zcw 202)))
 have HA:=zab hA
 have HKA:=zab kA
 clear h hA kA
 unfold zcw at *
 go_enter func133,ntmps133
 go_wp2_with fail
 generalize (w.alloc (.cells #[.string ⟨#[]⟩,.int .i64 0,.bool false,.bool false,.bool false,.bool false,.nilFunc] 202))=wA at *
 refine (uh HV).mono ?_
 rintro e w1 ⟨rfl,rfl⟩
 have hB:=zag wA (.cells zba 202)
 have kB:=yG wA (.cells zba 202)
 have zB:(wA.alloc (.cells zba 202)).heap.size=wA.heap.size+1:=by simp
 have HX:=zab (zhi wA.heap.size ob t (wA.alloc (.cells zba 202)) kB ((hB.block ob (by omega)).trans (uh HO)))
 have HAB:=zab (zaa (uh HA) hB)
 have HKC:=zab ((hB.block w.heap.size (by omega)).trans (uh HKA))
 have HZA:=zab zA
 have HZB:=zab zB
 clear HV hB kB HO HKA zA zB
 generalize (wA.alloc (.cells zba 202))=wB at *
 generalize wA.heap.size=G at *
 go_wp2_with fail
 refine (uh HX).mono ?_
 rintro e w2 ⟨rfl,b2⟩
 rw[uh HVI]
 have zA:=uh HZA
 have zB:=uh HZB
 have k3:=(b2.block w.heap.size (by omega)).trans (uh HKC)
 have c0:w2.cell? ⟨w.heap.size,0,none⟩=some (.string ⟨#[]⟩):=yF k3 0
 have c1:w2.cell? ⟨w.heap.size,1,none⟩=some (.int .i64 0):=yF k3 1
 have c2:w2.cell? ⟨w.heap.size,2,none⟩=some (.bool false):=yF k3 2
 have c3:w2.cell? ⟨w.heap.size,3,none⟩=some (.bool false):=yF k3 3
 have c4:w2.cell? ⟨w.heap.size,4,none⟩=some (.bool false):=yF k3 4
 have c5:w2.cell? ⟨w.heap.size,5,none⟩=some (.bool false):=yF k3 5
 have c6:w2.cell? ⟨w.heap.size,6,none⟩=some .nilFunc:=yF k3 6
 have fz:=yI k3
 have HK3:=zab k3
 have HB2:=zab (zaa (uh HAB) b2)
 clear HX HAB HKC k3 b2 zA zB HVI
 go_wp2
 refine bodyPost_ret (zam rfl _ _ w.heap.size 202 #[_,_,_,_,_,_,_] (0,0) _ _ rfl rfl (zat (uh HK3) [_,_,_,_,_,_,_] rfl) underlying202 rfl (by kernel_rfl)) rfl ?_
 exact⟨rfl,zah (uh HB2) (ye _) [_,_,_,_,_,_,_] 0⟩
end Go.Proofs.YtekpghcckdjnhaaGreatDoor
