import Derived.Deep.CutRange
import Derived.Test.YtekpghcckdjnhaaGreatDoorBa11
import Derived.Test.YtekpghcckdjnhaaGreatDoorBa9
set_option maxRecDepth 100000
set_option maxHeartbeats 8000000
namespace Go.Proofs.YtekpghcckdjnhaaGreatDoor
open Go.RowKit Go.Proofs.Tryz
theorem zjg (l:List za3) : l.length<=zbB l:=by
 induction l with
 | nil=>simp
 | cons p r ih=>simp[zbB] at *; omega
theorem zpO (acc:JM) (k:List UInt8) : ztG (ctM acc) k=(zcu acc).contains k:=by unfold ztG; rw[zfy]
theorem PR.other {w:World} {B:Nat} {v:Value} {ps:List za3} (h:PR w B v ps) {p:Addr} (hp:p.block < B) (u:Value) : PR (w.setCell p u) B v ps:=by
 refine⟨h.1,?_⟩
 rcases h.2 with h0 | ⟨g,cap,cur,hv,hB,hg,r⟩
 ·exact .inl h0
 ·exact .inr ⟨g,cap,cur,hv,hB,(Below.heap_setCell w p u g (by omega)).trans hg,r⟩
theorem zsn (s:ByteArray) (i:Nat) (w:World) (hs:s.size<=100000) (hi:i < s.size) (h123:bt s i=123)
  (IH:∀ (j:Nat) (w:World),i < j->j<=s.size->Calls prog 82 #[.string s,.int .i64 j] w (GP w (val s j))) :
  Calls prog 116 #[.string s,.int .i64 i] w (GP w (val s i)):=by
 obtain⟨i0,hi0,hz0,hz1,hz2⟩:=info_parts zfL
 have HSM:=zab (zru s (by omega))
 have HSTR:Hid (∀ (j:Nat) w,j<=s.size+1->Calls prog 85 #[.string s,.int .i64 j] w (zrB s w (zcM s j))):=fun j w hj=>zbv s j w (by omega) hj
 have g0:=zaz s (i+1)
 have g1:=(zdG (s:=s) (i:=i+1) (by omega)).2
 have HV:=zab (zjX h123)
 have HIH:=zab IH
 clear IH
 generalize hk0:sk s (i+1)=k0 at *
 go_enter func116,ntmps116
 go_wp2_with fail
 refine ((uh HSM).1 _ (i+1) _ (by omega)).mono ?_
 rintro e w1 ⟨rfl,rfl⟩
 rw[hk0]
 go_wp2_with fail
 refine ((uh HSM).2 125 k0 _ (by decide)).mono ?_
 rintro e w1 ⟨rfl,rfl⟩
 clear hk0
 by_cases h125:bt s k0=125
 ·rw[yj h125]
  have HR:Hid (val s i=some (.obj .nil,k0+1)):=by show _=_; rw[uh HV,yg h125]
  clear h125 HV
  go_wp2
  go_returns
  rw[uh HR]
  exact⟨((zai w _).trans ((yH _ _).alloc (by simp) _)).trans ((yH _ _).alloc (by simp; omega) _),rfl⟩
 ·rw[yk h125]
  have HR:Hid (val s i=(zhP s k0).map fun q=>(.obj q.1,q.2)):=by show _=_; rw[uh HV,yf h125]
  clear h125 HV h123
  go_wp2_with fail
  go_loopg [1,6] (s.size+1 - k0) (fun gk k pr wr=>∃ (j:Nat) (acc:JM),gk=s.size+1 - j/\k = .int .i64 (j:Int)/\k0<=j/\j<=s.size/\Got w.heap.size ⟨#[]⟩ 0 false false false wr/\Got (w.heap.size+1) ⟨#[]⟩ 0 true (zds acc) (twM [] acc) wr/\PR wr (w.heap.size+2) pr (ctM acc)/\Below w.heap.size w wr/\zbB (ctM acc)<=31*j/\(∀ p∈ctM acc,p.1.length<=1048576)/\zhP s k0=(zhP s j).map fun q=>(acc.app q.1,q.2))
  case atStart=>
   refine⟨k0,.nil,rfl,rfl,ye _,g1,?_,?_,?_,((zai w _).trans ((yH _ _).alloc (by simp) _)).trans ((yH _ _).alloc (by simp; omega) _),by simp[ctM,zbB],by simp[ctM],by simp[JM.app]⟩
   ·show (World.alloc _ _).heap[_]?=_
    rw[Lib.alloc_old _ _ _ (by simp; omega),Lib.alloc_old _ _ _ (by simp)]; exact yG w _
   ·show (World.alloc _ _).heap[_]?=_
    rw[Lib.alloc_old _ _ _ (by simp)]
    have:=yG (w.alloc (zfB ⟨#[]⟩ 0 false false false)) (zfB ⟨#[]⟩ 0 true false false)
    rw[show (w.alloc (zfB ⟨#[]⟩ 0 false false false)).heap.size=w.heap.size+1 from by simp] at this
    exact this
   ·refine⟨rfl,.inr ⟨w.heap.size+2,0,#[],rfl,ye _,?_,ye _,by unfold maxLen; omega,rfl,rfl⟩⟩
    have:=yG ((w.alloc (zfB ⟨#[]⟩ 0 false false false)).alloc (zfB ⟨#[]⟩ 0 true false false)) (.cells #[] 99)
    rw[show ((w.alloc (zfB ⟨#[]⟩ 0 false false false)).alloc (zfB ⟨#[]⟩ 0 true false false)).heap.size=w.heap.size+2 from by simp] at this
    exact this
  case round=>
   obtain⟨j,acc,hg,rfl,hj1,hj2,hr,hgot,hpr,hb,hsl,hkl,hst⟩:=hrel
   have HST:=zab hst
   have HG:=zab hgot
   have HRR:=zab hr
   have HP:=zab hpr
   have HB:=zab hb
   have HKL:=zab hkl
   have hwsz:=hb.size
   have hgl:=hgot.lt
   clear hst hgot hr hb hpr hkl
   have HC:=zab (uh HSTR j wr (by omega))
   cases hq:zcM s j with
   | none=>
    have HN:Hid (val s i=none):=by
     show _=_
     rw[uh HR,uh HST,zhQ,hq]; rfl
    rw[hq] at HC
    clear hq
    go_wp2_with fail
    refine (uh HC).mono ?_
    rintro e w2 ⟨b2,t,k,hk,_,rfl⟩
    have R2:=(uh HRR).below b2
    have B2:=zaa (uh HB) b2
    clear HC HRR HB
    go_wp2_with fail
    refine ((uh HSM).1 _ k _ rfl).mono ?_
    rintro e w3 ⟨rfl,rfl⟩
    obtain⟨r0,r1,r2,r3,r4⟩:=R2.cells
    obtain⟨q0,q1,q2,q3,q4⟩:=R2.fzs
    have RX:=zab (R2.put ⟨#[]⟩ 0 0 rfl false false false)
    have BX:=zab (zbk B2 (ye _) (.string ⟨#[]⟩) (.int .i64 0) (.bool false) (.bool false) (.bool false))
    clear R2 B2
    go_wp2
    try simp only[Exit.inBlock,Exit.then]
    refine bodyPost_ret (zcv rfl rfl (uh RX)) rfl ?_
    exact GP.bad (uh HN) (uh BX)
   | some q=>
    obtain⟨key,a⟩:=q
    have hqo:=zce hq
    have hql:=zfC hq
    have HM:Hid (zhP s k0=(if bt s (sk s a)=58 then (val s (sk s (sk s a+1))).bind fun q=>
      if bt s (sk s q.2)=125 then some (JM.cons key q.1 .nil,sk s q.2+1)
      else if bt s (sk s q.2)=44 then (zhP s (sk s (sk s q.2+1))).map fun r=>(JM.cons key q.1 r.1,r.2)
      else none else none).map fun q=>(acc.app q.1,q.2)):=by
     show _=_
     rw[uh HST,zhQ,hq]; rfl
    rw[hq] at HC
    have hn1:=zaz s a
    have hn2:=(zdG hqo.2).2
    clear hq HST
    go_wp2_with fail
    refine (uh HC).mono ?_
    rintro e w2 ⟨b2,rfl⟩
    have R2:=(uh HRR).below b2
    have G2:=(uh HG).below b2
    have P2:=(uh HP).below b2
    have B2:=zaa (uh HB) b2
    have hw2:=b2.size
    clear HC HRR HB HG HP b2
    go_wp2_with fail
    refine ((uh HSM).1 _ a _ rfl).mono ?_
    rintro e w3 ⟨rfl,rfl⟩
    generalize hsk:sk s a=ka at *
    go_wp2_with fail
    refine ((uh HSM).2 58 ka _ (by decide)).mono ?_
    rintro e w3 ⟨rfl,rfl⟩
    by_cases h58:bt s ka=58
    ·rw[yj h58]
     rw[yg h58] at HM
     have hka:ka < s.size:=zaw (by omega)
     have gs1:=zaz s (ka+1)
     have gs2:=(zdG (s:=s) (i:=ka+1) (by omega)).2
     clear h58 hsk
     go_wp2_with fail
     refine ((uh HSM).1 _ (ka+1) _ (by omega)).mono ?_
     rintro e w3 ⟨rfl,rfl⟩
     generalize sk s (ka+1)=kv at *
     have HC:=zab (uh HIH kv w2 (by omega) (by omega))
     cases hv:val s kv with
     | none=>
      have HN:Hid (val s i=none):=by
       show _=_
       rw[uh HR,uh HM,hv]; rfl
      rw[hv] at HC
      clear hv
      go_wp2_with fail
      refine (uh HC).mono ?_
      rintro e w3 ⟨b3,t,n,bb,tw,rfl⟩
      have R3:=(R2.below b3).alloc (zfB t n false bb tw)
      have B3:Below w.heap.size w (w3.alloc (zfB t n false bb tw)):=(zaa B2 b3).alloc (by have:=b3.size; omega) _
      obtain⟨r0,r1,r2,r3,r4⟩:=R3.cells
      obtain⟨q0,q1,q2,q3,q4⟩:=R3.fzs
      have RX:=zab (R3.put ⟨#[]⟩ 0 0 rfl false false false)
      have BX:=zab (zbk B3 (ye _) (.string ⟨#[]⟩) (.int .i64 0) (.bool false) (.bool false) (.bool false))
      clear HC R2 R3 B2 B3 G2 P2
      simp only[zgx]
      go_wp2
      try simp only[Exit.inBlock,Exit.then]
      refine bodyPost_ret (zcv rfl rfl (uh RX)) rfl ?_
      exact GP.bad (uh HN) (uh BX)
     | some q=>
      obtain⟨v,n⟩:=q
      have hvo:=zeV hv
      have hvl:=zj7 hv
      have HM2:Hid (zhP s k0=(if bt s (sk s n)=125 then some (JM.cons key v .nil,sk s n+1) else if bt s (sk s n)=44 then (zhP s (sk s (sk s n+1))).map fun r=>(JM.cons key v r.1,r.2) else none).map fun q=>(acc.app q.1,q.2)):=by
       show _=_
       rw[uh HM,hv]; rfl
      rw[hv] at HC
      have hsn1:=zaz s n
      have hsn2:=(zdG hvo.2).2
      clear hv HM
      have HBB:Hid (zds (acc.app (.cons key v .nil))=(zds acc || zbf v)):=by show _=_; rw[zjZ]; simp[zds]
      have HTT:Hid (twM [] (acc.app (.cons key v .nil))=((twM [] acc || twV v) || ztG (ctM acc) key)):=by
       show _=_
       rw[zm1,zpO]; simp[twM,Bool.or_assoc]
      have HCT:Hid (ctM (acc.app (.cons key v .nil))=ctM acc++[(key,ct v)]):=by show _=_; rw[zrj]; simp[ctM]
      go_wp2_with fail
      refine (uh HC).mono ?_
      rintro e w3 ⟨b3,rfl⟩
      simp only[zgx]
      have R4:=zab ((R2.below b3).alloc (zfB (zac (ct v)) n true (zbf v) (twV v)))
      have G4:=zab ((G2.below b3).alloc (zfB (zac (ct v)) n true (zbf v) (twV v)))
      have P4:=zab ((P2.below b3).below (zai w3 (zfB (zac (ct v)) n true (zbf v) (twV v))))
      have V4:Hid (Got w3.heap.size (zac (ct v)) n true (zbf v) (twV v) (w3.alloc (zfB (zac (ct v)) n true (zbf v) (twV v)))):=yG w3 _
      have B4:Hid (Below w.heap.size w (w3.alloc (zfB (zac (ct v)) n true (zbf v) (twV v)))):=(zaa B2 b3).alloc (by have:=b3.size; omega) _
      have hw3:=b3.size
      have hgl2:=G2.lt
      clear HC R2 G2 P2 B2 b3
      simp only[zfB] at G4 V4 R4 B4 P4
      generalize zbf v=bv at *
      generalize twV v=tv at *
      generalize hbm:zds acc=ba at *
      generalize htm:twM [] acc=ta at *
      generalize hfk:ztG (ctM acc) key=fk at *
      have vok:=(uh V4).c2
      generalize hw4:w3.alloc (.cells #[.string (zac (ct v)),.int .i64 (n:Int),.bool true,.bool bv,.bool tv] 135 (0,0))=w4 at *
      have hvg:w3.heap.size≠w.heap.size+1:=by omega
      go_upto_region 13 with fail
      go_cut [] from 23 to 102 (fun wx=>wx=w4.setCell ⟨w.heap.size+1,3,none⟩ (.bool (ba || bv)))
      case first=>
       have g3:=(uh G4).c3
       have v3:=(uh V4).c3
       have f3:=(uh G4).fz 3
       cases ba
       ·go_wp2
        go_meet
        case rel=>rfl
       ·go_wp2
        go_meet
        case rel=>rfl
      case rest=>
       have G5:Hid (Got (w.heap.size+1) ⟨#[]⟩ 0 true (ba || bv) ta wc):=hcut ▸ (uh G4).set3 (ba || bv)
       have R5:Hid (Got w.heap.size ⟨#[]⟩ 0 false false false wc):=hcut ▸ (uh R4).other (p:=⟨w.heap.size+1,3,none⟩) (by show _≠w.heap.size+1; omega) _
       have V5:Hid (Got w3.heap.size (zac (ct v)) n true bv tv wc):=hcut ▸ (uh V4).other (p:=⟨w.heap.size+1,3,none⟩) hvg _
       have P5:Hid (PR wc (w.heap.size+2) u6 (ctM acc)):=hcut ▸ (uh P4).other (p:=⟨w.heap.size+1,3,none⟩) (by show w.heap.size+1 < _; omega) _
       have B5:Hid (Below w.heap.size w wc):=hcut ▸ (uh B4).setCell (p:=⟨w.heap.size+1,3,none⟩) (by show _<=w.heap.size+1; omega) _
       clear hcut G4 R4 V4 P4 B4 vok hw4
       generalize (ba || bv)=bb at *
       have HFI:Hid (Calls prog 91 #[u6,.string (zac key)] wc fun e w'=>∃ z:Int,e = .returned (.int .i64 z)/\decide ((0:Int)<=z)=fk/\wc=w'):=by
        have h:=zrC (w.heap.size+2) u6 (ctM acc) key wc (uh P5) (by have:=zjg (ctM acc); omega)
        rw[hfk] at h
        exact h
       go_upto_region 14 with fail
       go_cut [] from 23 to 102 (fun wx=>wx=wc.setCell ⟨w.heap.size+1,4,none⟩ (.bool ((ta || tv) || fk)))
       case first=>
        have g3:=(uh G5).c4
        have v3:=(uh V5).c4
        have f3:=(uh G5).fz 4
        cases ta
        ·cases tv
         ·go_wp2_with fail
          refine (uh HFI).mono ?_
          rintro e w6 ⟨z,rfl,hz,rfl⟩
          go_wp2
          go_meet
          case rel=>rw[← hz]; simp
         ·go_wp2
          go_meet
          case rel=>rfl
        ·go_wp2
         go_meet
         case rel=>rfl
       case rest=>
        have G6:Hid (Got (w.heap.size+1) ⟨#[]⟩ 0 true bb ((ta || tv) || fk) wc):=hcut ▸ (uh G5).set4 ((ta || tv) || fk)
        have R6:Hid (Got w.heap.size ⟨#[]⟩ 0 false false false wc):=hcut ▸ (uh R5).other (p:=⟨w.heap.size+1,4,none⟩) (by show _≠w.heap.size+1; omega) _
        have V6:Hid (Got w3.heap.size (zac (ct v)) n true bv tv wc):=hcut ▸ (uh V5).other (p:=⟨w.heap.size+1,4,none⟩) hvg _
        have P6:Hid (PR wc (w.heap.size+2) u6 (ctM acc)):=hcut ▸ (uh P5).other (p:=⟨w.heap.size+1,4,none⟩) (by show w.heap.size+1 < _; omega) _
        have B6:Hid (Below w.heap.size w wc):=hcut ▸ (uh B5).setCell (p:=⟨w.heap.size+1,4,none⟩) (by show _<=w.heap.size+1; omega) _
        clear hcut G5 R5 V5 P5 B5 HFI hfk
        generalize ((ta || tv) || fk)=tt at *
        have v0:=(uh V6).c0
        have hw6:=(uh V6).lt
        have own6:wc.ownsRow (w.heap.size+2) 99 2 u6 (ctM acc).length ((ctM acc).flatMap zbc):=uh P6
        have hcl:=zjg (ctM acc)
        have hne6:∀ k,u6.ownBlock=some k->w.heap.size+2<=k/\k≠w3.heap.size:=fun k hk=>by
         refine⟨(own6.lt k hk).1,fun e=>?_⟩
         subst e
         rcases own6.2 with ⟨hv,_⟩ | ⟨gg,cap,cur,hv,_,hgg,_⟩
         ·rw[hv] at hk; cases hk
         ·rw[hv] at hk
          injection hk with hk
          rw[show gg=w3.heap.size from hk,uh V6] at hgg
          injection hgg with hgg
          injection hgg with _ h2
          exact absurd h2 (by decide)
        have HNE:=zab hne6
        clear hne6
        go_wp2_with (at_builtin; refine wpList_append_own _ rfl (.tmp 72) (.tmp 77) 92 rfl (w.heap.size+2) 99 i0 (.agg #[.string ByteArray.empty,.string ByteArray.empty]) 2 32 underlying92 hi0 hz0 hz1 hz2 rfl (by decide) _ _ _ rfl (own6.alloc _) ⟨wc.heap.size,0,none⟩ 1 1 (zbc (key,ct v)) rfl rfl (zix _ _ _ _) (fun u hu=>by { simp[zbc] at hu; rcases hu with rfl | rfl <;> rfl }) (by unfold maxLen; omega) (by omega) (by simp; omega) ?_; intro v7 w7 own7 hg7 _; have hg8:(wc.alloc (.cells #[.string (zac key),.string (zac (ct v))] 99)).grownBy w7 u6.ownBlock:=hg7; have keep:∀ k,k < wc.heap.size->some k≠u6.ownBlock->w7.heap[k]?=wc.heap[k]?:=(fun k hk hn=>(hg8.block k (by simp; omega) hn).trans (Lib.alloc_old wc _ k hk)); have G7:Hid (Got (w.heap.size+1) ⟨#[]⟩ 0 true bb tt w7):=(keep _ (uh G6).lt (fun e=>by have:=(uh HNE _ e.symm).1; omega)).trans (uh G6); have R7:Hid (Got w.heap.size ⟨#[]⟩ 0 false false false w7):=(keep _ (uh R6).lt (fun e=>by have:=(uh HNE _ e.symm).1; omega)).trans (uh R6); have V7:Hid (Got w3.heap.size (zac (ct v)) n true bv tv w7):=(keep _ (uh V6).lt (fun e=>(uh HNE _ e.symm).2 rfl)).trans (uh V6); have P7:Hid (PR w7 (w.heap.size+2) v7 (ctM acc++[(key,ct v)])):=(by show PR w7 (w.heap.size+2) v7 (ctM acc++[(key,ct v)]); unfold PR; rw[yh,List.flatMap_append]; simpa using own7); have B7:Hid (Below w.heap.size w w7):=((uh B6).alloc (by omega) _).grown hg8 (by simp; omega) (fun k hk=>by have:=(uh HNE k hk).1; omega); have v71:=(uh V7).c1; clear own7 hg7 hg8 keep own6 G6 R6 V6 P6 B6 HNE v0)
        refine ((uh HSM).1 _ n _ rfl).mono ?_
        rintro e w8 ⟨rfl,rfl⟩
        clear v71 V7
        rw[← uh HCT] at P7
        have hsl2:zbB (ctM (acc.app (.cons key v .nil)))<=31*sk s n:=by
         rw[uh HCT,zjf]
         have e2:zbB [(key,ct v)]=(quoted key).length+1+(ct v).length+1:=by simp[zbB,zav]; omega
         have:=zcD key
         omega
        have hkl2:Hid (∀ p∈ctM (acc.app (.cons key v .nil)),p.1.length<=1048576):=fun p hp=>by
         rw[uh HCT] at hp
         rcases List.mem_append.1 hp with hp | hp
         ·exact uh HKL p hp
         ·simp at hp; subst hp; show key.length<=_; omega
        generalize sk s n=k at *
        generalize hA2:acc.app (.cons key v .nil)=acc2 at *
        go_wp2_with fail
        refine ((uh HSM).2 125 k _ (by decide)).mono ?_
        rintro e w8 ⟨rfl,rfl⟩
        by_cases h125:bt s k=125
        ·rw[yj h125]
         have HVV:Hid (val s i=some (.obj acc2,k+1)):=by
          show _=_
          rw[uh HR,uh HM2,yg h125,← hA2]; rfl
         have HSO:=zab (zia _ _ _ _ (uh P7) (by have:=zjg (ctM acc2); omega))
         clear h125 HM2
         go_wp2_with fail
         refine (uh HSO).mono ?_
         rintro e w9 ⟨v9,rfl,p9,b9⟩
         have HMK:=zab (zkm _ _ _ _ p9 (by rw[zdq]; omega) (by have:=zjg (zaq (ctM acc2)); rw[zdq] at this; omega) (fun p hp=>by
          have:p∈ctM acc2:=by
           have hm:=zap (ctM acc2)
           exact hm.mem_iff.1 hp
          exact uh hkl2 p this))
         have G9:=(uh G7).below b9
         have R9:=(uh R7).below b9
         have B9:=zaa (uh B7) b9
         clear HSO p9 b9 G7 R7 B7 P7
         go_wp2_with fail
         refine (uh HMK).mono ?_
         rintro e w10 ⟨rfl,b10⟩
         have G10:=G9.below b10
         have R10:=R9.below b10
         have B10:=zaa B9 b10
         clear G9 R9 B9 b10 HMK
         have HSF:Hid (zac (ct (.obj acc2))=zac (mkO (zaq (ctM acc2)))):=by show _=_; rw[ct]
         generalize zac (mkO (zaq (ctM acc2)))=sf at *
         have c0:=G10.c0
         have f0:=G10.fz 0
         have G11:=G10.set0 sf
         have c71:=G11.c1
         have f71:=G11.fz 1
         have G12:=G11.set1 ((k:Int)+1) (k+1) (by omega)
         have R12:=(R10.other (p:=⟨w.heap.size+1,0,none⟩) (by show _≠w.heap.size+1; omega) (.string sf)).other (p:=⟨w.heap.size+1,1,none⟩) (by show _≠w.heap.size+1; omega) (.int .i64 ((k:Int)+1))
         have B12:=(B10.setCell (p:=⟨w.heap.size+1,0,none⟩) (by show _<=w.heap.size+1; omega) (.string sf)).setCell (p:=⟨w.heap.size+1,1,none⟩) (by show _<=w.heap.size+1; omega) (.int .i64 ((k:Int)+1))
         obtain⟨a0,a1',a2,a3,a4⟩:=G12.cells
         have a1:=a1'.trans (show _=some (Value.int .i64 ((k:Int)+1)) by rw[show ((k+1:Nat) : Int)=(k:Int)+1 from by omega])
         obtain⟨r0,r1,r2,r3,r4⟩:=R12.cells
         obtain⟨q0,q1,q2,q3,q4⟩:=R12.fzs
         have RX:=zab (R12.copyTo G12 ((k:Int)+1) (by omega))
         have BX:=zab (fun a b c d e=>zbk B12 (ye _) a b c d e)
         clear a1' G10 G11 G12 R10 R12 B10 B12 HR
         go_wp2
         try simp only[Exit.inBlock,Exit.then]
         refine bodyPost_ret (zcv rfl rfl (uh RX)) rfl ?_
         rw[uh HVV]
         refine⟨uh BX _ _ _ _ _,?_⟩
         show _=Ending.returned (zgx (zac (ct (.obj acc2))) (k+1) true (zds acc2) (twM [] acc2))
         rw[uh HSF,uh HBB,uh HTT]
        ·rw[yk h125]
         go_wp2_with fail
         refine ((uh HSM).2 44 k _ (by decide)).mono ?_
         rintro e w8 ⟨rfl,rfl⟩
         by_cases h44:bt s k=44
         ·rw[yj h44]
          have hkl:k < s.size:=zaw (by omega)
          have HST2:Hid (zhP s k0=(zhP s (sk s (k+1))).map fun q=>(acc2.app q.1,q.2)):=by
           show _=_
           rw[uh HM2,yf h125,yg h44,Option.map_map,← hA2]
           congr 1
           funext q
           simp[JM.app_assoc,JM.app]
          have hs1:=zaz s (k+1)
          have hs2:=(zdG (s:=s) (i:=k+1) (by omega)).2
          clear HM2 h125 h44
          go_wp2_with fail
          refine ((uh HSM).1 _ (k+1) _ (by omega)).mono ?_
          rintro e w9 ⟨rfl,rfl⟩
          go_wp2
          go_roundg (s.size+1 - sk s (k+1))
          case rel=>exact⟨sk s (k+1),acc2,rfl,rfl,by omega,hs2,uh R7,by rw[uh HBB,uh HTT]; exact uh G7,uh P7,uh B7,by omega,uh hkl2,uh HST2⟩
          case measure=>omega
         ·rw[yk h44]
          have HN:Hid (val s i=none):=by
           show _=_
           rw[uh HR,uh HM2,yf h125,yf h44]; rfl
          have R6:=uh R7
          obtain⟨r0,r1,r2,r3,r4⟩:=R6.cells
          obtain⟨q0,q1,q2,q3,q4⟩:=R6.fzs
          have RX:=zab (R6.put ⟨#[]⟩ 0 0 rfl false false false)
          have BX:=zab (zbk (uh B7) (ye _) (.string ⟨#[]⟩) (.int .i64 0) (.bool false) (.bool false) (.bool false))
          clear R6 G7 R7 B7 P7 HM2 h125 h44
          go_wp2
          try simp only[Exit.inBlock,Exit.then]
          refine bodyPost_ret (zcv rfl rfl (uh RX)) rfl ?_
          exact GP.bad (uh HN) (uh BX)
    ·rw[yk h58]
     have HN:Hid (val s i=none):=by
      show _=_
      rw[uh HR,uh HM,yf h58]; rfl
     obtain⟨r0,r1,r2,r3,r4⟩:=R2.cells
     obtain⟨q0,q1,q2,q3,q4⟩:=R2.fzs
     have RX:=zab (R2.put ⟨#[]⟩ 0 0 rfl false false false)
     have BX:=zab (zbk B2 (ye _) (.string ⟨#[]⟩) (.int .i64 0) (.bool false) (.bool false) (.bool false))
     clear R2 B2 G2 P2 h58
     go_wp2
     try simp only[Exit.inBlock,Exit.then]
     refine bodyPost_ret (zcv rfl rfl (uh RX)) rfl ?_
     exact GP.bad (uh HN) (uh BX)
theorem zyw {s:ByteArray} {i:Nat} (h:i+4<=s.size) : zaX s i (i+4)=[s.data.toList.getD i 0,s.data.toList.getD (i+1) 0,s.data.toList.getD (i+2) 0,s.data.toList.getD (i+3) 0]:=by
 have e:∀ k,i+k < s.size->s.data.toList.drop (i+k)=s.data.toList.getD (i+k) 0 :: s.data.toList.drop (i+k+1):=fun k hk=>by
  rw[zax s (i+k) hk,List.getD_eq_getElem?_getD,zdW s (i+k) hk]; rfl
 unfold zaX
 rw[show i+4 - i=4 by omega]
 have e0:=e 0 (by omega)
 rw[Nat.add_zero] at e0
 rw[e0,e 1 (by omega),e 2 (by omega),e 3 (by omega)]; rfl
theorem zyJ {s:ByteArray} {i:Nat} (h:i+5<=s.size) : zaX s i (i+5)=[s.data.toList.getD i 0,s.data.toList.getD (i+1) 0,s.data.toList.getD (i+2) 0,s.data.toList.getD (i+3) 0,s.data.toList.getD (i+4) 0]:=by
 have e:∀ k,i+k < s.size->s.data.toList.drop (i+k)=s.data.toList.getD (i+k) 0 :: s.data.toList.drop (i+k+1):=fun k hk=>by
  rw[zax s (i+k) hk,List.getD_eq_getElem?_getD,zdW s (i+k) hk]; rfl
 unfold zaX
 rw[show i+5 - i=5 by omega]
 have e0:=e 0 (by omega)
 rw[Nat.add_zero] at e0
 rw[e0,e 1 (by omega),e 2 (by omega),e 3 (by omega),e 4 (by omega)]; rfl
theorem zfT (a:UInt8) (n:Nat) (h:n < 256) : (a=UInt8.ofNat n)↔a.toNat=n:=by
 constructor
 ·rintro rfl; rw[UInt8.toNat_ofNat']; omega
 ·intro e; apply UInt8.toNat_inj.1; rw[UInt8.toNat_ofNat']; omega
theorem zko (s:ByteArray) (i:Nat) : (decide (i+4<=s.size) && (s.extract i (i+4)).toList == [110,117,108,108])=zdm s i:=by
 by_cases h:i+4<=s.size
 ·rw[yj h,Bool.true_and,zaJ,zyw h]
  unfold zdm bt
  rw[Bool.eq_iff_iff]
  simp only[yC,Bool.and_eq_true,List.cons.injEq,and_true]
  rw[show (110:UInt8)=UInt8.ofNat 110 from rfl,show (117:UInt8)=UInt8.ofNat 117 from rfl,show (108:UInt8)=UInt8.ofNat 108 from rfl,zfT _ _ (by decide),zfT _ _ (by decide),zfT _ _ (by decide),zfT _ _ (by decide)]
  simp only[and_assoc]
 ·rw[yk h,Bool.false_and]
  by_cases hw:zdm s i=true
  ·exact absurd (zeD hw) h
  ·simpa using hw
theorem zkp (s:ByteArray) (i:Nat) : (decide (i+4<=s.size) && (s.extract i (i+4)).toList == [116,114,117,101])=zdJ s i:=by
 by_cases h:i+4<=s.size
 ·rw[yj h,Bool.true_and,zaJ,zyw h]
  unfold zdJ bt
  rw[Bool.eq_iff_iff]
  simp only[yC,Bool.and_eq_true,List.cons.injEq,and_true]
  rw[show (116:UInt8)=UInt8.ofNat 116 from rfl,show (114:UInt8)=UInt8.ofNat 114 from rfl,show (117:UInt8)=UInt8.ofNat 117 from rfl,show (101:UInt8)=UInt8.ofNat 101 from rfl,zfT _ _ (by decide),zfT _ _ (by decide),zfT _ _ (by decide),zfT _ _ (by decide)]
  simp only[and_assoc]
 ·rw[yk h,Bool.false_and]
  by_cases hw:zdJ s i=true
  ·exact absurd (zeE hw) h
  ·simpa using hw
theorem zoy (s:ByteArray) (i:Nat) : (decide (i+5<=s.size) && (s.extract i (i+5)).toList == [102,97,108,115,101])=zco s i:=by
 by_cases h:i+5<=s.size
 ·rw[yj h,Bool.true_and,zaJ,zyJ h]
  unfold zco bt
  rw[Bool.eq_iff_iff]
  simp only[yC,Bool.and_eq_true,List.cons.injEq,and_true]
  rw[show (102:UInt8)=UInt8.ofNat 102 from rfl,show (97:UInt8)=UInt8.ofNat 97 from rfl,show (108:UInt8)=UInt8.ofNat 108 from rfl,show (115:UInt8)=UInt8.ofNat 115 from rfl,show (101:UInt8)=UInt8.ofNat 101 from rfl,zfT _ _ (by decide),zfT _ _ (by decide),zfT _ _ (by decide),zfT _ _ (by decide),zfT _ _ (by decide)]
  simp only[and_assoc]
 ·rw[yk h,Bool.false_and]
  by_cases hw:zco s i=true
  ·exact absurd (zef hw) h
  ·simpa using hw
theorem zpP {s:ByteArray} {i:Nat} (h:zdm s i=true) : zaX s i (i+4)=[110,117,108,108]:=by
 have h2:=zko s i
 rw[h,yj (zeD h),Bool.true_and,yC,zaJ] at h2
 exact h2
theorem zpQ {s:ByteArray} {i:Nat} (h:zdJ s i=true) : zaX s i (i+4)=[116,114,117,101]:=by
 have h2:=zkp s i
 rw[h,yj (zeE h),Bool.true_and,yC,zaJ] at h2
 exact h2
theorem GP.form {w0 w2:World} {o:Option (JV×Nat)} {e:Ending} (h:GP w0 o e w2) : ∃ t n ok b tw,e = .returned (zgx t n ok b tw)/\Below w0.heap.size w0 w2/\∀ W W',Below W.heap.size W W'->GP W o (.returned (zgx t n ok b tw)) W':=by
 obtain⟨hb,h⟩:=h
 cases o with
 | none=>
  obtain⟨t,n,b,tw,rfl⟩:=h
  exact⟨t,n,false,b,tw,rfl,hb,fun W W' hW=>⟨hW,t,n,b,tw,rfl⟩⟩
 | some q=>
  exact⟨_,_,_,_,_,h,hb,fun W W' hW=>⟨hW,rfl⟩⟩
theorem zgB (w:World) : Got w.heap.size ⟨#[]⟩ 0 false false false (w.alloc (zfB ⟨#[]⟩ 0 false false false)):=yG w _
theorem ziD (s:ByteArray) (i:Nat) (w:World) (hs:s.size<=100000) (hi:i<=s.size)
  (IH:∀ (j:Nat) (w:World),i < j->j<=s.size->Calls prog 82 #[.string s,.int .i64 j] w (GP w (val s j))) :
  Calls prog 82 #[.string s,.int .i64 i] w (GP w (val s i)):=by
 have HSM:=zab (zru s (by omega))
 have HAR:Hid (∀ w,i < s.size->bt s i=91->Calls prog 115 #[.string s,.int .i64 i] w (GP w (val s i))):=fun w hl h=>ztJ s i w (by omega) hl h IH
 have HOB:Hid (∀ w,i < s.size->bt s i=123->Calls prog 116 #[.string s,.int .i64 i] w (GP w (val s i))):=fun w hl h=>zsn s i w hs hl h IH
 have HNU:Hid (∀ w,Calls prog 119 #[.string s,.int .i64 i] w (GP w ((nm s i).map fun q=>(.num q.1,q.2)))):=fun w=>ztD s i w (by omega) (by omega)
 have HST:Hid (∀ w,Calls prog 85 #[.string s,.int .i64 i] w (zrB s w (zcM s i))):=fun w=>zbv s i w (by omega) (by omega)
 have HW1:Hid (∀ w,Calls prog 118 #[.string s,.int .i64 i,.string ⟨#[110,117,108,108]⟩] w fun e w'=>e = .returned (.bool (zdm s i))/\w=w'):=fun w=>by
  have h:=ze4 s ⟨#[110,117,108,108]⟩ i w (by omega) (by decide) (by omega)
  rw[← zko s i]
  rw[ByteArray.toList_eq (⟨#[110,117,108,108]⟩ : ByteArray)] at h
  exact h
 have HW2:Hid (∀ w,Calls prog 118 #[.string s,.int .i64 i,.string ⟨#[116,114,117,101]⟩] w fun e w'=>e = .returned (.bool (zdJ s i))/\w=w'):=fun w=>by
  have h:=ze4 s ⟨#[116,114,117,101]⟩ i w (by omega) (by decide) (by omega)
  rw[← zkp s i]
  rw[ByteArray.toList_eq (⟨#[116,114,117,101]⟩ : ByteArray)] at h
  exact h
 have HW3:Hid (∀ w,Calls prog 118 #[.string s,.int .i64 i,.string ⟨#[102,97,108,115,101]⟩] w fun e w'=>e = .returned (.bool (zco s i))/\w=w'):=fun w=>by
  have h:=ze4 s ⟨#[102,97,108,115,101]⟩ i w (by omega) (by decide) (by omega)
  rw[← zoy s i]
  rw[ByteArray.toList_eq (⟨#[102,97,108,115,101]⟩ : ByteArray)] at h
  exact h
 clear IH
 go_enter func82,ntmps82
 go_wp2_with fail
 refine ((uh HSM).2 91 i _ (by decide)).mono ?_
 rintro e w1 ⟨rfl,rfl⟩
 by_cases h91:bt s i=91
 ·rw[yj h91]
  have hl:i < s.size:=zaw (by omega)
  go_wp2_with fail
  refine (uh HAR _ hl h91).mono ?_
  intro e w2 hgp
  obtain⟨t,n,ok,b,tw,rfl,b2,hall⟩:=hgp.form
  have R2:=(zgB w).below b2
  obtain⟨r0,r1,r2,r3,r4⟩:=R2.cells
  obtain⟨q0,q1,q2,q3,q4⟩:=R2.fzs
  have RX:=zab (R2.put t (n:Int) n rfl ok b tw)
  have BX:=zab (zbk (zaa (zai w _) b2) (ye _) (.string t) (.int .i64 (n:Int)) (.bool ok) (.bool b) (.bool tw))
  have HALL:=zab hall
  clear hgp b2 R2 hall HAR HOB HNU HST HW1 HW2 HW3 h91
  simp only[zgx]
  go_wp2
  try simp only[Exit.inBlock,Exit.then]
  refine bodyPost_ret (zcv rfl rfl (uh RX)) rfl ?_
  exact uh HALL _ _ (uh BX)
 ·rw[yk h91]
  go_wp2_with fail
  refine ((uh HSM).2 123 i _ (by decide)).mono ?_
  rintro e w1 ⟨rfl,rfl⟩
  by_cases h123:bt s i=123
  ·rw[yj h123]
   have hl:i < s.size:=zaw (by omega)
   go_wp2_with fail
   refine (uh HOB _ hl h123).mono ?_
   intro e w2 hgp
   obtain⟨t,n,ok,b,tw,rfl,b2,hall⟩:=hgp.form
   have R2:=(zgB w).below b2
   obtain⟨r0,r1,r2,r3,r4⟩:=R2.cells
   obtain⟨q0,q1,q2,q3,q4⟩:=R2.fzs
   have RX:=zab (R2.put t (n:Int) n rfl ok b tw)
   have BX:=zab (zbk (zaa (zai w _) b2) (ye _) (.string t) (.int .i64 (n:Int)) (.bool ok) (.bool b) (.bool tw))
   have HALL:=zab hall
   clear hgp b2 R2 hall HAR HOB HNU HST HW1 HW2 HW3 h91 h123
   simp only[zgx]
   go_wp2
   try simp only[Exit.inBlock,Exit.then]
   refine bodyPost_ret (zcv rfl rfl (uh RX)) rfl ?_
   exact uh HALL _ _ (uh BX)
  ·rw[yk h123]
   go_wp2_with fail
   refine ((uh HSM).2 34 i _ (by decide)).mono ?_
   rintro e w1 ⟨rfl,rfl⟩
   by_cases h34:bt s i=34
   ·rw[yj h34]
    have HV:=zab (zmZ h34)
    go_wp2_with fail
    refine (uh HST _).mono ?_
    intro e w2 hsp
    obtain⟨t,n,ok,hts,rfl,b2,hall⟩ : ∃ (t:ByteArray) (n:Nat) (ok:Bool),t.size<=1048576/\e = .returned (.tuple #[.string t,.int .i64 (n:Int),.bool ok])/\Below (w.alloc (zfB ⟨#[]⟩ 0 false false false)).heap.size (w.alloc (zfB ⟨#[]⟩ 0 false false false)) w2/\∀ W W',Below W.heap.size W W'->GP W (val s i) (.returned (zgx (zac (quoted t.data.toList)) n ok false false)) W':=by
     obtain⟨b2,h2⟩:=hsp
     cases hq:zcM s i with
     | none=>
      rw[hq] at h2
      obtain⟨t,k,_,ht,rfl⟩:=h2
      refine⟨t,k,false,by omega,rfl,b2,fun W W' hW=>?_⟩
      rw[uh HV,hq]
      exact⟨hW,_,_,_,_,rfl⟩
     | some q=>
      rw[hq] at h2
      obtain⟨l,k⟩:=q
      have hql:=zfC hq
      have hqo:=zce hq
      refine⟨zac l,k,true,by rw[zaf]; omega,h2,b2,fun W W' hW=>?_⟩
      rw[uh HV,hq,zad]
      exact⟨hW,rfl⟩
    have HQ:=zab (zgY t w2 hts)
    have R2:=(zgB w).below b2
    have B2:=zaa (zai w _) b2
    have HALL:=zab hall
    clear hsp b2 hall HAR HOB HNU HST HW1 HW2 HW3 h91 h123 h34
    go_wp2_with fail
    refine (uh HQ).mono ?_
    rintro e w3 ⟨rfl,b3⟩
    have R3:=R2.below b3
    have B3:=zaa B2 b3
    generalize zac (quoted t.data.toList)=qt at *
    obtain⟨r0,r1,r2,r3,r4⟩:=R3.cells
    obtain⟨q0,q1,q2,q3,q4⟩:=R3.fzs
    have RX:=zab (R3.put qt (n:Int) n rfl ok false false)
    have BX:=zab (zbk B3 (ye _) (.string qt) (.int .i64 (n:Int)) (.bool ok) (.bool false) (.bool false))
    clear HQ R2 B2 R3 B3 b3
    go_wp2
    try simp only[Exit.inBlock,Exit.then]
    refine bodyPost_ret (zcv rfl rfl (uh RX)) rfl ?_
    exact uh HALL _ _ (uh BX)
   ·rw[yk h34]
    have HV:=zab (zcz h91 h123 h34)
    clear h91 h123 h34
    go_wp2_with fail
    refine (uh HW1 _).mono ?_
    rintro e w1 ⟨rfl,rfl⟩
    cases hw:zdm s i with
    | true=>
     have hin:=zeD hw
     have HR:Hid (val s i=some (JV.nul,i+4)):=by show _=_; rw[uh HV,yg hw]
     have HX:Hid (s.extract i (i+4)=zac (ct JV.nul)):=by show _=_; rw[zaN,zpP hw]; rfl
     have i1:(i:Int)<=(i:Int)+4:=by omega
     have i2:(i:Int)+4<=(s.size:Int):=by omega
     have i3:(0:Int)<=(i:Int):=by omega
     clear HAR HOB HNU HST HW1 HW2 HW3 hw HV
     go_wp2
     go_returns
     rw[uh HR,uh HX]
     exact⟨zai w _,rfl⟩
    | false=>
     have hn:=hw
     clear hw
     go_wp2_with fail
     refine (uh HW2 _).mono ?_
     rintro e w1 ⟨rfl,rfl⟩
     cases hw:zdJ s i with
     | true=>
      have hin:=zeE hw
      have HR:Hid (val s i=some (JV.tt,i+4)):=by show _=_; rw[uh HV,yf (by rw[hn]; simp),yg hw]
      have HX:Hid (s.extract i (i+4)=zac (ct JV.tt)):=by show _=_; rw[zaN,zpQ hw]; rfl
      have i1:(i:Int)<=(i:Int)+4:=by omega
      have i2:(i:Int)+4<=(s.size:Int):=by omega
      have i3:(0:Int)<=(i:Int):=by omega
      clear HAR HOB HNU HST HW1 HW2 HW3 hw HV hn
      go_wp2
      go_returns
      rw[uh HR,uh HX]
      exact⟨zai w _,rfl⟩
     | false=>
      have hn2:=hw
      clear hw
      go_wp2_with fail
      refine (uh HW3 _).mono ?_
      rintro e w1 ⟨rfl,rfl⟩
      cases hw:zco s i with
      | true=>
       have hin:=zef hw
       have HR:Hid (val s i=some (JV.ff,i+5)):=by show _=_; rw[uh HV,yf (by rw[hn]; simp),yf (by rw[hn2]; simp),yg hw]
       clear HAR HOB HNU HST HW1 HW2 HW3 hw HV hn hn2
       go_wp2
       go_returns
       rw[uh HR]
       exact⟨zai w _,rfl⟩
      | false=>
       have HR:Hid (val s i=(nm s i).map fun q=>(JV.num q.1,q.2)):=by show _=_; rw[uh HV,yf (by rw[hn]; simp),yf (by rw[hn2]; simp),yf (by rw[hw]; simp)]
       clear hw HV hn hn2
       go_wp2_with fail
       refine (uh HNU _).mono ?_
       intro e w2 hgp
       rw[← uh HR] at hgp
       obtain⟨t,n,ok,b,tw,rfl,b2,hall⟩:=hgp.form
       have R2:=(zgB w).below b2
       obtain⟨r0,r1,r2,r3,r4⟩:=R2.cells
       obtain⟨q0,q1,q2,q3,q4⟩:=R2.fzs
       have RX:=zab (R2.put t (n:Int) n rfl ok b tw)
       have BX:=zab (zbk (zaa (zai w _) b2) (ye _) (.string t) (.int .i64 (n:Int)) (.bool ok) (.bool b) (.bool tw))
       have HALL:=zab hall
       clear hgp b2 R2 hall HAR HOB HNU HST HW1 HW2 HW3
       simp only[zgx]
       go_wp2
       try simp only[Exit.inBlock,Exit.then]
       refine bodyPost_ret (zcv rfl rfl (uh RX)) rfl ?_
       exact uh HALL _ _ (uh BX)
theorem ziE (s:ByteArray) (hs:s.size<=100000) : ∀ (n i:Nat) (w:World),s.size - i<=n->i<=s.size->Calls prog 82 #[.string s,.int .i64 i] w (GP w (val s i))
 | 0,i,w,hn,hi=>ziD s i w hs hi fun j w' hj hj2=>by omega
 | n+1,i,w,hn,hi=>ziD s i w hs hi fun j w' hj hj2=>ziE s hs n j w' (by omega) hj2
def zoz:Option JV->Sum Nat JV
 | none=>.inl 2
 | some v=>if zbf v then .inl 3 else if twV v then .inl 4 else if 100 < zaY v∨3000 < zaA v then .inl 5 else .inr v
theorem zuW {s:ByteArray} (h:¬ 20000 < s.size) : zaZ s=zoz (zgz s):=by
 unfold zaZ
 rw[yf h]
 cases zgz s <;> rfl
theorem zcY (s:ByteArray) (w:World) (hz:s.size<=1048576) :
  Calls prog 46 #[.string s] w fun e w'=>e = .returned (za5 s)/\Below w.heap.size w w':=by
 by_cases h0:20000 < s.size
 ·have tl:(20000:Int) < (s.size:Int):=by omega
  have HV:Hid (za5 s = .tuple #[.string ⟨#[]⟩,.int .i64 1]):=by show _=_; unfold za5 zaZ; rw[yg h0]; rfl
  clear h0
  go_enter func46,ntmps46
  go_wp2
  go_ret2
  exact⟨by rw[uh HV]; rfl,yH _ _⟩
 ·have tl:¬ (20000:Int) < (s.size:Int):=by omega
  have hk0:sk s 0<=s.size:=(zdG (yt _)).2
  have HSK:Hid (∀ (i:Nat) (w:World),Calls prog 83 #[.string s,.int .i64 (i:Int)] w fun e w'=>e = .returned (.int .i64 ((sk s i:Nat) : Int))/\w=w'):=fun i w=>zhW s i w hz
  have HS0:Hid (Calls prog 83 #[.string s,.int .i64 0] w fun e w'=>e = .returned (.int .i64 ((sk s 0:Nat) : Int))/\w=w'):=uh HSK 0 w
  have HVAL:=zab (ziE s (by omega) s.size (sk s 0) w (by omega) hk0)
  have HR:Hid (zaZ s=zoz (zgz s)):=zuW h0
  have hdoc:zgz s=(val s (sk s 0)).bind fun q=>if sk s q.2=s.size then some q.1 else none:=rfl
  cases hv:val s (sk s 0) with
  | none=>
   rw[hv] at HVAL hdoc
   have HV:Hid (za5 s = .tuple #[.string ⟨#[]⟩,.int .i64 2]):=by show _=_; unfold za5; rw[uh HR,hdoc]; rfl
   clear HR hdoc hv h0
   go_enter func46,ntmps46
   go_wp2_with fail
   refine (uh HS0).mono ?_
   rintro e w1 ⟨rfl,rfl⟩
   go_wp2_with fail
   refine (uh HVAL).mono ?_
   rintro e w1 ⟨b1,t,n,b,tw,rfl⟩
   have B1:=b1.alloc b1.size (.cells #[.string t,.int .i64 (n:Int),.bool false,.bool b,.bool tw] 135)
   clear HS0 HVAL HSK
   simp only[zgx]
   go_wp2
   go_ret2
   exact⟨by rw[uh HV]; rfl,B1⟩
  | some q=>
   obtain⟨v,n⟩:=q
   obtain⟨hn1,hn2⟩:=zeV hv
   have hok:=zrr hv
   have hcn:=zrG hv
   have hln:=zj7 hv
   rw[hv] at HVAL hdoc
   simp only[yA] at hdoc
   by_cases he:sk s n=s.size
   ·rw[yg he] at hdoc
    have te:((sk s n:Int) != (s.size:Int))=false:=by rw[yM]; omega
    rw[hdoc] at HR
    have HSN:=zab (fun w=>uh HSK n w)
    have HWI:Hid (∀ w:World,Calls prog 51 #[.string (zac (ct v))] w fun e w'=>e = .returned (.bool (decide (zaY v<=100/\zaA v<=3000)))/\Below w.heap.size w w'):=fun w=>zlN v hok w (by omega) (by omega)
    cases hb:zbf v with
    | true=>
     have HV:Hid (za5 s = .tuple #[.string ⟨#[]⟩,.int .i64 3]):=by show _=_; unfold za5; rw[uh HR,zoz,hb]; rfl
     have HVAL':Hid (Calls prog 82 #[.string s,.int .i64 ((sk s 0:Nat) : Int)] w fun e w'=>e = .returned (zgx (zac (ct v)) n true true (twV v))/\Below w.heap.size w w'):=(uh HVAL).mono fun e w' h=>⟨by have:=h.2; simp only[Option.elim_some] at this; rw[hb] at this; exact this,h.1⟩
     generalize zac (ct v)=tx at *
     generalize twV v=tw at *
     generalize sk s n=m at *
     clear HVAL HR hdoc hv h0 he hb HWI HSK hok hcn hln
     go_enter func46,ntmps46
     go_wp2_with fail
     refine (uh HS0).mono ?_
     rintro e w1 ⟨rfl,rfl⟩
     go_wp2_with fail
     refine (uh HVAL').mono ?_
     rintro e w1 ⟨rfl,b1⟩
     have B1:=b1.alloc b1.size (.cells #[.string tx,.int .i64 (n:Int),.bool true,.bool true,.bool tw] 135)
     clear HS0 HVAL'
     simp only[zgx]
     go_wp2_with fail
     refine (uh HSN _).mono ?_
     rintro e w2 ⟨rfl,rfl⟩
     clear HSN
     go_wp2
     go_ret2
     exact⟨by rw[uh HV]; rfl,B1⟩
    | false=>
     cases ht:twV v with
     | true=>
      have HV:Hid (za5 s = .tuple #[.string ⟨#[]⟩,.int .i64 4]):=by show _=_; unfold za5; rw[uh HR,zoz,hb,ht]; rfl
      have HVAL':Hid (Calls prog 82 #[.string s,.int .i64 ((sk s 0:Nat) : Int)] w fun e w'=>e = .returned (zgx (zac (ct v)) n true false true)/\Below w.heap.size w w'):=(uh HVAL).mono fun e w' h=>⟨by have:=h.2; simp only[Option.elim_some] at this; rw[hb,ht] at this; exact this,h.1⟩
      generalize zac (ct v)=tx at *
      generalize sk s n=m at *
      clear HVAL HR hdoc hv h0 he hb ht HWI HSK hok hcn hln
      go_enter func46,ntmps46
      go_wp2_with fail
      refine (uh HS0).mono ?_
      rintro e w1 ⟨rfl,rfl⟩
      go_wp2_with fail
      refine (uh HVAL').mono ?_
      rintro e w1 ⟨rfl,b1⟩
      have B1:=b1.alloc b1.size (.cells #[.string tx,.int .i64 (n:Int),.bool true,.bool false,.bool true] 135)
      clear HS0 HVAL'
      simp only[zgx]
      go_wp2_with fail
      refine (uh HSN _).mono ?_
      rintro e w2 ⟨rfl,rfl⟩
      clear HSN
      go_wp2
      go_ret2
      exact⟨by rw[uh HV]; rfl,B1⟩
     | false=>
      have HVAL':Hid (Calls prog 82 #[.string s,.int .i64 ((sk s 0:Nat) : Int)] w fun e w'=>e = .returned (zgx (zac (ct v)) n true false false)/\Below w.heap.size w w'):=(uh HVAL).mono fun e w' h=>⟨by have:=h.2; simp only[Option.elim_some] at this; rw[hb,ht] at this; exact this,h.1⟩
      by_cases hg:zaY v<=100/\zaA v<=3000
      ·have HV:Hid (za5 s = .tuple #[.string (zac (ct v)),.int .i64 0]):=by show _=_; unfold za5; rw[uh HR,zoz,hb,ht,yf (by decide),yf (by decide),yf (by omega)]
       rw[yj hg] at HWI
       generalize zac (ct v)=tx at *
       generalize sk s n=m at *
       clear HVAL HR hdoc hv h0 he hb ht HSK hok hcn hln hg
       go_enter func46,ntmps46
       go_wp2_with fail
       refine (uh HS0).mono ?_
       rintro e w1 ⟨rfl,rfl⟩
       go_wp2_with fail
       refine (uh HVAL').mono ?_
       rintro e w1 ⟨rfl,b1⟩
       have B1:=zab (b1.alloc b1.size (.cells #[.string tx,.int .i64 (n:Int),.bool true,.bool false,.bool false] 135))
       clear HS0 HVAL'
       simp only[zgx]
       go_wp2_with fail
       refine (uh HSN _).mono ?_
       rintro e w2 ⟨rfl,rfl⟩
       clear HSN
       have G2:Got w1.heap.size tx n true false false (w1.alloc (.cells #[.string tx,.int .i64 (n:Int),.bool true,.bool false,.bool false] 135)):=yG w1 _
       have HG2:=zab G2
       clear G2
       go_wp2_with fail
       refine (uh HWI _).mono ?_
       rintro e w3 ⟨rfl,b3⟩
       have c3:=((uh HG2).below b3).c0
       have B3:=zaa (uh B1) b3
       clear HWI HG2 b3 B1
       go_wp2
       go_ret2
       exact⟨by rw[uh HV]; rfl,B3⟩
      ·have HV:Hid (za5 s = .tuple #[.string ⟨#[]⟩,.int .i64 5]):=by show _=_; unfold za5; rw[uh HR,zoz,hb,ht,yf (by decide),yf (by decide),yg (by omega)]; rfl
       rw[yk hg] at HWI
       generalize zac (ct v)=tx at *
       generalize sk s n=m at *
       clear HVAL HR hdoc hv h0 he hb ht HSK hok hcn hln hg
       go_enter func46,ntmps46
       go_wp2_with fail
       refine (uh HS0).mono ?_
       rintro e w1 ⟨rfl,rfl⟩
       go_wp2_with fail
       refine (uh HVAL').mono ?_
       rintro e w1 ⟨rfl,b1⟩
       have B1:=zab (b1.alloc b1.size (.cells #[.string tx,.int .i64 (n:Int),.bool true,.bool false,.bool false] 135))
       clear HS0 HVAL'
       simp only[zgx]
       go_wp2_with fail
       refine (uh HSN _).mono ?_
       rintro e w2 ⟨rfl,rfl⟩
       clear HSN
       go_wp2_with fail
       refine (uh HWI _).mono ?_
       rintro e w3 ⟨rfl,b3⟩
       have B3:=zaa (uh B1) b3
       clear HWI b3 B1
       go_wp2
       go_ret2
       exact⟨by rw[uh HV]; rfl,B3⟩
   ·rw[yf he] at hdoc
    have te:((sk s n:Int) != (s.size:Int))=true:=by rw[bne_iff_ne]; omega
    have HV:Hid (za5 s = .tuple #[.string ⟨#[]⟩,.int .i64 2]):=by show _=_; unfold za5; rw[uh HR,hdoc]; rfl
    have HSN:=zab (fun w=>uh HSK n w)
    have HVAL':Hid (Calls prog 82 #[.string s,.int .i64 ((sk s 0:Nat) : Int)] w fun e w'=>e = .returned (zgx (zac (ct v)) n true (zbf v) (twV v))/\Below w.heap.size w w'):=(uh HVAL).mono fun e w' h=>⟨h.2,h.1⟩
    generalize zac (ct v)=tx at *
    generalize twV v=tw at *
    generalize zbf v=bg at *
    generalize sk s n=m at *
    clear HVAL HR hdoc hv h0 HSK hok hcn hln
    go_enter func46,ntmps46
    go_wp2_with fail
    refine (uh HS0).mono ?_
    rintro e w1 ⟨rfl,rfl⟩
    go_wp2_with fail
    refine (uh HVAL').mono ?_
    rintro e w1 ⟨rfl,b1⟩
    have B1:=b1.alloc b1.size (.cells #[.string tx,.int .i64 (n:Int),.bool true,.bool bg,.bool tw] 135)
    clear HS0 HVAL'
    simp only[zgx]
    go_wp2_with fail
    refine (uh HSN _).mono ?_
    rintro e w2 ⟨rfl,rfl⟩
    clear HSN
    go_wp2
    go_ret2
    exact⟨by rw[uh HV]; rfl,B1⟩
end Go.Proofs.YtekpghcckdjnhaaGreatDoor
