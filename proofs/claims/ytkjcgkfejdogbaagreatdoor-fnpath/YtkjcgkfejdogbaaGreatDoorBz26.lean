import Derived.Test.YtkjcgkfejdogbaaGreatDoorBz25
import Derived.Test.YtkjcgkfejdogbaaGreatDoorBz7
set_option maxRecDepth 100000
set_option maxHeartbeats 8000000
namespace Go.Proofs.YtkjcgkfejdogbaaGreatDoor
open Go.RowKit
theorem sel_one (k:Int) (t:ByteArray) (ha hb hc:Bool) (a b c:Int) (q:Option Addr) (l m:Nat) : ∀ u∈[Value.int .i64 k,.string t,.bool ha,.bool hb,.bool hc,.int .i64 a,.int .i64 b,.int .i64 c,.slice q l m],u.oneCell'=true:=by
 intro u hu; simp at hu; rcases hu with rfl | rfl | rfl | rfl | rfl | rfl | rfl | rfl | rfl <;> rfl
theorem selE_lit (w:World) (k:Int) (t:ByteArray) : selE.E w [.int .i64 k,.string t,.bool false,.bool false,.bool false,.int .i64 0,.int .i64 0,.int .i64 0,.slice none 0 0] ⟨k,t,false,false,false,0,0,0,[]⟩ []:=⟨_,rfl,ORow.nil _ _⟩
def NmU (s:ByteArray) (i j:Nat) : Prop:=i≤j∧j≤s.size∧∀ m (hm:m < s.size),i≤m→m < j→isNm s[m]=true
theorem NmU.next {s:ByteArray} {i j:Nat} (h:NmU s i j) (hj:j < s.size) (hc:isNm s[j]=true) : NmU s i (j+1):=
 ⟨by have:=h.1; omega,by omega,fun m hm h1 h2=>by
  by_cases e:m=j
  ·subst e; exact hc
  ·exact h.2.2 m hm h1 (by omega)⟩
theorem nm_run {s:ByteArray} : ∀ (n i j:Nat),j=i+n→NmU s i j→((s.data.toList.drop i).take n).all isNm=true
 | 0,i,j,hn,h=>by simp
 | n+1,i,j,hn,h=>by
  have hi:i < s.size:=by have:=h.2.1; omega
  have e:=dr_at hi
  unfold dr at e
  rw[e,List.take_succ_cons,List.all_cons,h.2.2 i hi (Nat.le_refl _) (by omega),Bool.true_and]
  exact nm_run n (i+1) j (by omega) ⟨by omega,h.2.1,fun m hm h1 h2=>h.2.2 m hm (by omega) h2⟩
theorem NmU.fin {s:ByteArray} {i j:Nat} (h:NmU s i j) (he:j=s.size∨∃ hj:j < s.size,isNm s[j]=false) : (s.extract i j).data.toList=(dr s i).take (j - i)∧(sName ((dr s i).take (j - i))=true→pName (dr s i)=some ((dr s i).take (j - i),dr s j))∧(sName ((dr s i).take (j - i))=false→pName (dr s i)=none):=by
 have h1:=h.1
 have h2:=h.2.1
 have e2:(s.extract i j).data.toList=(dr s i).take (j - i):=Lib.extract_data _ _ _
 have hsp:dr s i=(dr s i).take (j - i)++dr s j:=by
  have:=(List.take_append_drop (j - i) (dr s i)).symm
  rw[dr_dr,show i+(j - i)=j by omega] at this
  exact this
 have hno:NoNm (dr s j):=fun c r hc=>by
  rcases he with he | ⟨hj,hc2⟩
  ·rw[dr_end (by omega)] at hc; cases hc
  ·rw[dr_at hj] at hc
   injection hc with hc _
   rw[← hc]; exact hc2
 refine⟨e2,fun hb=>?_,fun hb=>?_⟩
 ·have:=pName_ext hb hno
  rw[← hsp] at this
  exact this
 ·cases hp:pName (dr s i) with
  | none=>rfl
  | some z=>
   obtain⟨x,t⟩:=z
   obtain⟨hx1,hx2,hx3⟩:=pName_some hp
   exfalso
   -- both are the longest run
   have hall:=nm_run (s:=s) (j - i) i j (by omega) h
   have hxa:x.all isNm=true:=by
    cases x with
    | nil=>rfl
    | cons c r=>
     have h3:(isLet c && r.all isNm)=true:=hx2
     rw[Bool.and_eq_true] at h3
     rw[List.all_cons,h3.2,Bool.and_true]
     unfold isNm; rw[h3.1]; rfl
   have key:∀ (p q a b:Bs),p.all isNm=true→q.all isNm=true→NoNm a→NoNm b→p++a=q++b→p=q:=fun p=>by
    induction p with
    | nil=>
     intro q a b _ hq ha _ e
     cases q with
     | nil=>rfl
     | cons c r=>
      rw[List.nil_append,List.cons_append] at e
      have:=ha c _ e
      rw[List.all_cons,this] at hq; cases hq
    | cons c p ih=>
     intro q a b hp hq ha hb e
     cases q with
     | nil=>
      rw[List.nil_append,List.cons_append] at e
      have:=hb c _ e.symm
      rw[List.all_cons,this] at hp; cases hp
     | cons d q=>
      rw[List.cons_append,List.cons_append] at e
      injection e with e1 e3
      rw[List.all_cons,Bool.and_eq_true] at hp hq
      rw[e1,ih q a b hp.2 hq.2 ha hb e3]
   have:=key _ _ _ _ hxa hall hx3 hno (by rw[← hx1]; exact hsp)
   have this2:x=(dr s i).take (j - i):=this
   rw[← this2,hx2] at hb
   cases hb
theorem spl1_count {c:UInt8} {l:Bs} : (spl c [] 0 [] l).length≤l.length+1:=by
 have hj:=spl_jn c [] l 0 []
 rw[List.nil_append] at hj
 generalize spl c [] 0 [] l=ps at *
 have key:∀ (ps:List Bs),ps.length≤(jn [c] ps).length+1:=fun ps=>by
  induction ps with
  | nil=>simp
  | cons a r ih=>
   cases r with
   | nil=>simp
   | cons b t=>
    rw[jn_cons (by simp),List.length_append,List.length_append,List.length_cons]
    simp only[List.length_singleton]
    omega
 have:=key ps
 rw[hj.2] at this
 exact this
theorem nmP_star {deep:Bool} {s:ByteArray} {i:Nat} (h:bt s i=42) : nmP deep (dr s i)=some ((⟨deep,[allS]⟩,0),dr s (i+1)):=by
 have hi:i < s.size:=bt_in (by omega)
 rw[dr_at hi]
 have:s[i]=42:=by rw[bt_at s i hi] at h; exact (toNat_is (by decide)).1 h
 show (if s[i]=42 then _ else _)=_
 rw[if_pos this]
theorem nmP_else {deep:Bool} {s:ByteArray} {i:Nat} (h:¬ bt s i=42) : nmP deep (dr s i)=(pName (dr s i)).map fun p=>((⟨deep,[nameS p.1]⟩,0),p.2):=by
 cases hd:dr s i with
 | nil=>rfl
 | cons c r=>
  obtain⟨-,hb,-⟩:=bt_dr hd
  rw[hb] at h
  show (if c=42 then _ else _)=_
  rw[if_neg (fun e=>h (by rw[e]; rfl))]
theorem atD_walk (s:ByteArray) (c j:Nat) (w:World) (hc:c≠0) : Calls Tryz.prog 21 #[.string s,.int .i64 (j:Int),.int .u8 (c:Int)] w fun e w'=>e = .returned (.bool (decide (bt s j=c)))∧w=w':=by
 have h:=at_walk s (j:Int) j rfl c w
 have e:atB s j (c:Int)=decide (bt s j=c):=by
  by_cases hlt:j < s.size
  ·rw[atB_in hlt,← bt_at s j hlt]
   by_cases g:bt s j=c
   ·rw[g]; simp
   ·rw[decide_eq_false g,beq_eq_false_iff_ne]; omega
  ·rw[atB_out hlt,bt_out s j (by omega)]
   exact (decide_eq_false (fun g=>hc g.symm)).symm
 rw[e] at h
 exact h
theorem seg_walk (n:Nat) (s:ByteArray) (w:World) (hn:s.size < n) (hs:s.size≤1000000) : Calls Tryz.prog 22 #[.string s] w (GRet w s.data.toList (segP (sBr n) s.data.toList)):=by
 have HW2:=hide (fun w=>wordB_walk s ⟨#[46,46]⟩ 0 w (by omega) (by decide) (Nat.zero_le _))
 have HW1:=hide (fun w=>wordB_walk s ⟨#[46]⟩ 0 w (by omega) (by decide) (Nat.zero_le _))
 have HAT:=hide (atD_walk s)
 have HSEG:=hide (fun i deep h=>seg_at (n:=n) (s:=s) (i:=i) (deep:=deep) h)
 have HST:=hide (GS.start w)
 have hp2:List.isPrefixOf (ByteArray.mk #[46,46]).data.toList (dr s 0)=decide (bt s 0=46∧bt s 1=46):=by
  show List.isPrefixOf ([46,46] : Bs) (dr s 0)=_
  cases hd:dr s 0 with
  | nil=>rw[bt_nil hd]; simp[List.isPrefixOf]
  | cons c r=>
   obtain⟨-,hb,hr⟩:=bt_dr hd
   rw[Nat.zero_add] at hr
   rw[hb]
   cases r with
   | nil=>rw[bt_nil hr]; simp[List.isPrefixOf]
   | cons d u=>
    obtain⟨-,hb1,-⟩:=bt_dr hr
    rw[hb1]
    simp only[List.isPrefixOf,Bool.and_true]
    rw[Bool.eq_iff_iff]
    simp only[Bool.and_eq_true,beq_iff_eq,decide_eq_true_eq]
    rw[toNat_is (by decide),toNat_is (by decide)]
    constructor
    ·rintro⟨rfl,rfl⟩; exact⟨rfl,rfl⟩
    ·rintro⟨h1,h2⟩; rw[h1,h2]; exact⟨rfl,rfl⟩
 have hp1:List.isPrefixOf (ByteArray.mk #[46]).data.toList (dr s 0)=decide (bt s 0=46):=by
  show List.isPrefixOf ([46] : Bs) (dr s 0)=_
  cases hd:dr s 0 with
  | nil=>rw[bt_nil hd]; simp[List.isPrefixOf]
  | cons c r=>
   obtain⟨-,hb,hr⟩:=bt_dr hd
   rw[hb]
   simp only[List.isPrefixOf,Bool.and_true]
   rw[Bool.eq_iff_iff]
   simp only[beq_iff_eq,decide_eq_true_eq]
   rw[toNat_is (by decide)]
   constructor
   ·rintro rfl; rfl
   ·intro h1; rw[h1]; rfl
 rw[hp2] at HW2
 rw[hp1] at HW1
 obtain⟨p2,hP2⟩ : ∃ b,decide (bt s 0=46∧bt s 1=46)=b:=⟨_,rfl⟩
 obtain⟨p1,hP1⟩ : ∃ b,decide (bt s 0=46)=b:=⟨_,rfl⟩
 rw[hP2] at HW2
 rw[hP1] at HW1
 have HP2:=hide hP2
 have HP1:=hide hP1
 have hbts:¬ bt s 0=46→¬ (bt s 0=46∧bt s 1=46):=fun h k=>h k.1
 have hsz2:bt s 1=46→2≤s.size:=fun h=>bt_in (by omega)
 have hsz1:bt s 0=46→1≤s.size:=fun h=>bt_in (by omega)
 have HZ2:=hide hsz2
 have HZ1:=hide hsz1
 clear hp2 hp1 hbts hsz2 hsz1 hP1 hP2
 generalize segP (sBr n) s.data.toList=RR at *
 go_enter Tryz.func22,Tryz.ntmps22
 go_wp2_with fail
 generalize (((w.alloc (.cells #[.bool false,.slice none 0 0] 43)).alloc (.cells #[] 40)).alloc (.cells #[.bool false,.slice (some ⟨w.heap.size+1,0,none⟩) 0 0] 43))=w0 at *
 refine (uh HW2 _).mono ?_
 rintro e w1 ⟨rfl,rfl⟩
 obtain⟨g50,g51⟩:=(uh HST).r5.cs
 obtain⟨z50,z51⟩:=(uh HST).r5.fz
 go_upto_if 18 with fail
 go_cut [6] from 17 to 21 (fun iv wx=>∃ (i:Nat) (deep:Bool),iv = .int .i64 (i:Int)∧Dots s i deep∧i≤s.size∧GS w wx deep [] (.slice (some ⟨w.heap.size+1,0,none⟩) 0 0) [w.heap.size+1])
 case first=>
  cases p2 with
  | true=>
   have hh:=of_decide_eq_true (uh HP2)
   have HD:Hid (Dots s 2 true):=.inr (.inr ⟨rfl,rfl,hh.1,hh.2⟩)
   have HZ:=hide (uh HZ2 hh.2)
   clear hh
   go_wp2
   go_meet
   case rel=>exact⟨2,true,rfl,uh HD,uh HZ,(uh HST).deepen true⟩
  | false=>
   have hh:=of_decide_eq_false (uh HP2)
   cases p1 with
   | true=>
    have h0:=of_decide_eq_true (uh HP1)
    have HD:Hid (Dots s 1 false):=.inr (.inl ⟨rfl,rfl,h0,fun h=>hh ⟨h0,h⟩⟩)
    have HZ:=hide (uh HZ1 h0)
    clear h0 hh
    go_wp2_with fail
    refine (uh HW1 _).mono ?_
    rintro e w1 ⟨rfl,rfl⟩
    go_wp2
    go_meet
    case rel=>exact⟨1,false,rfl,uh HD,uh HZ,uh HST⟩
   | false=>
    have h0:=of_decide_eq_false (uh HP1)
    have HD:Hid (Dots s 0 false):=.inl ⟨rfl,rfl,h0⟩
    clear h0 hh
    go_wp2_with fail
    refine (uh HW1 _).mono ?_
    rintro e w1 ⟨rfl,rfl⟩
    go_wp2
    go_meet
    case rel=>exact⟨0,false,rfl,uh HD,Nat.zero_le _,uh HST⟩
 obtain⟨i,deep,rfl,hdots,hi,hgs⟩:=hcut
 have HR:=hide (uh HSEG i deep hdots)
 have hi2:i=0∨i=1∨i=2:=by rcases hdots with h | h | h <;> simp[h.1]
 have HI2:=hide hi2
 have HGS:=hide hgs
 clear HSEG HST HW1 HW2 HZ1 HZ2 hdots hgs g50 g51 z50 z51 hi2 HP1 HP2
 unfold segAt at HR
 obtain⟨pb,hpb⟩ : ∃ b,decide (i≠1∧bt s i=91)=b:=⟨_,rfl⟩
 have HPB:=hide hpb
 clear hpb
 go_upto_region 8 with fail
 go_cut [28] from 22 to 28 (fun x wx=>x = .bool pb∧wx=wc)
 case first=>
  have HA:=hide (uh HAT 91 i wc (by decide))
  by_cases h1:i=1
  ·have HD:Hid (pb=false):=by show _=_; rw[← uh HPB]; exact decide_eq_false fun h=>h.1 h1
   subst h1
   go_wp2
   go_meet
   case rel=>exact⟨by rw[uh HD],rfl⟩
  ·have h1I:((i:Int) != 1)=true:=by rw[bne_iff_ne]; omega
   have HD:Hid (pb=decide (bt s i=91)):=by show _=_; rw[← uh HPB]; simp[h1]
   go_wp2_with fail
   refine (uh HA).mono ?_
   rintro e w1 ⟨rfl,rfl⟩
   go_wp2
   go_meet
   case rel=>exact⟨by rw[uh HD],rfl⟩
 obtain⟨rfl,rfl⟩:=hcut
 cases pb with
 | true=>
  have hh:=of_decide_eq_true (uh HPB)
  have hib:i < s.size:=bt_in (by rw[hh.2]; decide)
  have h91:s[i]=91:=by have h:=hh.2; rw[bt_at s i hib] at h; exact (toNat_is (by decide)).1 h
  have hdr:dr s i=91 :: dr s (i+1):=by rw[dr_at hib,h91]
  have HR2:Hid (RR=brP (sBr n) deep (dr s (i+1))):=by show _=_; rw[uh HR,if_pos hh]
  have HCW:=hide (close_walk (s.extract i s.size) wc (by simp; omega))
  rw[dr_ext] at HCW
  have iI:(i:Int)≤(s.size:Int):=by omega
  have HBR:Hid (sBr n (dr s (i+1))=match clo 0 0 (dr s i) with
   | none=>none
   | some k=>if 2≤k∧(dr s i)[k - 1]?=some 93 then (sSels n ((dr s (i+1)).take (k - 2))).map fun x=>(x,(dr s (i+1)).drop (k - 1)) else none):=by
   show _=_
   rw[hdr]; rfl
  obtain⟨c20,c21⟩:=(uh HGS).r2.cs
  obtain⟨f20,f21⟩:=(uh HGS).r2.fz
  obtain⟨c50,c51⟩:=(uh HGS).r5.cs
  clear hh h91 hdr HR HPB HAT HI2
  go_wp2_with fail
  refine (uh HCW).mono ?_
  rintro e w1 ⟨rfl,rfl⟩
  clear HCW
  cases hc:clo 0 0 (dr s i) with
  | none=>
   have HR3:Hid (RR=none):=by show _=_; rw[uh HR2]; unfold brP; rw[uh HBR,hc]; rfl
   have e1:natO none = -1:=rfl
   rw[e1]
   clear e1 hc HBR HR2
   go_wp2
   refine bodyPost_ret (results_cell_2 rfl _ _ w.heap.size 43 #[_,_] (0,0) _ _ _ rfl rfl rfl (putN_full (uh HGS).r2 [_,_] rfl) Tryz.underlying43 rfl (by kernel_rfl)) rfl ?_
   exact (uh HGS).bad (uh HR3)
  | some m=>
   have e1:natO (some m)=(m:Int):=rfl
   rw[e1]
   have hcl:=clo_le _ _ (Nat.le_refl _) 0 0 m hc
   rw[dr_len] at hcl
   rw[hc] at HBR
   have HBR2:Hid (sBr n (dr s (i+1))=if 2≤m∧(dr s i)[m - 1]?=some 93 then (sSels n ((dr s (i+1)).take (m - 2))).map fun x=>(x,(dr s (i+1)).drop (m - 1)) else none):=uh HBR
   clear e1 hc HBR
   obtain⟨pm,hpm⟩ : ∃ b,decide (2≤m∧(dr s i)[m - 1]?=some 93)=b:=⟨_,rfl⟩
   have HPM:=hide hpm
   clear hpm
   go_upto_region 10 with fail
   go_cut [43] from 33 to 43 (fun x wx=>x = .bool (!pm)∧wx=wc)
   case first=>
    by_cases h2:m < 2
    ·have h2I:(m:Int) < 2:=by omega
     have HV:Hid (pm=false):=by show _=_; rw[← uh HPM]; exact decide_eq_false fun h=>by omega
     go_wp2
     go_meet
     case rel=>exact⟨by rw[uh HV]; rfl,rfl⟩
    ·have h2I:¬ (m:Int) < 2:=by omega
     have hx:i+m - 1 < s.size:=by omega
     have hge:(dr s i)[m - 1]?=some s[i+m - 1]:=by
      rw[List.getElem?_eq_getElem (by rw[dr_len]; omega)]
      congr 1
      have:=dr_get (s:=s) (i:=i) (m:=m - 1) (by rw[dr_len]; omega) (by omega)
      rw[this]
      congr 1
      omega
     have j1:(0:Int)≤(i:Int)+(m:Int) - 1:=by omega
     have j2:(i:Int)+(m:Int) - 1 < (s.size:Int):=by omega
     by_cases h93:s[i+m - 1]=93
     ·have n93:(((s[i+m - 1].toNat:Nat) : Int) != 93)=false:=ne_f h93
      have HV:Hid (pm=true):=by show _=_; rw[← uh HPM]; exact decide_eq_true ⟨by omega,by rw[hge,h93]⟩
      clear h93 hge
      go_wp2
      go_meet
      case rel=>exact⟨by rw[uh HV]; rfl,rfl⟩
     ·have n93:(((s[i+m - 1].toNat:Nat) : Int) != 93)=true:=ne_t (d:=93) h93
      have HV:Hid (pm=false):=by show _=_; rw[← uh HPM]; exact decide_eq_false fun h=>by rw[hge] at h; injection h.2 with h4; exact h93 h4
      clear h93 hge
      go_wp2
      go_meet
      case rel=>exact⟨by rw[uh HV]; rfl,rfl⟩
   obtain⟨rfl,rfl⟩:=hcut
   cases pm with
   | false=>
    have hh:=of_decide_eq_false (uh HPM)
    have HR3:Hid (RR=none):=by show _=_; rw[uh HR2]; unfold brP; rw[uh HBR2,if_neg hh]; rfl
    clear hh HPM HR2 HBR2
    go_wp2
    refine bodyPost_ret (results_cell_2 rfl _ _ w.heap.size 43 #[_,_] (0,0) _ _ _ rfl rfl rfl (putN_full (uh HGS).r2 [_,_] rfl) Tryz.underlying43 rfl (by kernel_rfl)) rfl ?_
    exact (uh HGS).bad (uh HR3)
   | true=>
    have hh:=of_decide_eq_true (uh HPM)
    have hm2:2≤m:=hh.1
    have HR3:Hid (RR=(sSels n ((dr s (i+1)).take (m - 2))).map fun x=>((⟨deep,x.1⟩,x.2),dr s (i+m))):=by
     show _=_
     rw[uh HR2]
     unfold brP
     rw[uh HBR2,if_pos hh,Option.map_map,dr_dr,show i+1+(m - 1)=i+m by omega]
     rfl
    have hin:s.extract (i+1) (i+m - 1)=bsT ((dr s (i+1)).take (m - 2)):=by
     rw[ext_bs]
     show _=bsT (((s.data.toList.drop (i+1))).take (m - 2))
     congr 2
     omega
    have hind:(bsT ((dr s (i+1)).take (m - 2))).data.toList=(dr s (i+1)).take (m - 2):=by simp[bsT]
    have hinz:(bsT ((dr s (i+1)).take (m - 2))).size≤s.size:=by rw[← hin]; simp; omega
    have HSP:=hide (split2_walk (bsT ((dr s (i+1)).take (m - 2))) ⟨#[44]⟩ 44 [] wc (by omega) rfl (by decide))
    rw[hind] at HSP
    have HPL:Hid (∀ p∈spl 44 [] 0 [] ((dr s (i+1)).take (m - 2)),p.length≤s.size):=fun p hp=>by
     have:=spl1_piece (c:=44) (l:=(dr s (i+1)).take (m - 2)) p hp
     rw[List.length_take,dr_len] at this
     omega
    have hps:(spl 44 [] 0 [] ((dr s (i+1)).take (m - 2))).length≤s.size+1:=by
     have:=spl1_count (c:=44) (l:=(dr s (i+1)).take (m - 2))
     rw[List.length_take,dr_len] at this
     omega
    have HU:Hid (LUp n (sSels n ((dr s (i+1)).take (m - 2))) (spl 44 [] 0 [] ((dr s (i+1)).take (m - 2))) 0 ([],0)):=⟨rfl,by simp,by simp⟩
    have HIN:=hide hin
    generalize sSels n ((dr s (i+1)).take (m - 2))=RS at *
    generalize spl 44 [] 0 [] ((dr s (i+1)).take (m - 2))=ps at *
    have j1:(i:Int)+1≤(i:Int)+(m:Int) - 1:=by omega
    have j2:(i:Int)+(m:Int) - 1≤(s.size:Int):=by omega
    clear hh HPM HR2 HBR2 hin hind hinz
    go_wp2_with fail
    rw[uh HIN]
    refine (uh HSP).mono ?_
    rintro e w2 ⟨tv,rfl,hts,b2⟩
    have hz2:=b2.size
    have G2:=hide ((uh HGS).below b2)
    have HTS:Hid (TS w2 (w.heap.size+1+1+1) tv ps):=own_mono hts (by have:=(uh HGS).r5.lt; omega)
    have hlt0:=(uh HGS).r5.lt
    obtain⟨ta,tc,rfl,-⟩:=hts.cells
    clear hts b2 HSP HGS c20 c21 f20 f21 c50 c51
    go_wp2
    go_loopw [9,10] (fun dv iv wr=>∃ (k:Nat) (x:XL) (qa:Option Addr) (ql qc:Nat) (bl:List Nat),k≤ps.length∧iv = .int .i64 (k:Int)∧dv = .int .i64 (x.2:Int)∧Hid (LUp n RS ps k x)∧Hid (TS wr (w.heap.size+1+1+1) (.slice ta ps.length tc) ps∧(∀ g,(Value.slice ta ps.length tc).ownBlock=some g→g < w2.heap.size∧∀ b∈bl,b≠g))∧w2.heap.size≤wr.heap.size∧Hid (GS w wr deep x.1 (.slice qa ql qc) bl)) (fun _ iv _=>ps.length - (intOf iv).toNat)
    case atStart=>
     refine⟨0,([],0),_,_,_,_,Nat.zero_le _,rfl,rfl,HU,⟨uh HTS,fun g hg=>⟨(World.ownsRow.lt (uh HTS) g hg).2,fun b hb=>?_⟩⟩,Nat.le_refl _,G2⟩
     have h1:=(World.ownsRow.lt (uh HTS) g hg).1
     simp at hb
     omega
    case round=>
     obtain⟨k,x,qa,ql,qc,bl,hk,rfl,rfl,hu,hts,hwz,hgs⟩:=hrel
     clear HU HTS G2
     obtain⟨c20,c21⟩:=(uh hgs).r2.cs
     obtain⟨f20,f21⟩:=(uh hgs).r2.fz
     obtain⟨c50,c51⟩:=(uh hgs).r5.cs
     have hx2:=(uh hu).2.2
     have hx1:=(uh hu).2.1
     by_cases hlt:k < ps.length
     ·have hltI:(k:Int) < (ps.length:Int):=by omega
      obtain⟨tb',tc',htv,hcell⟩:=(uh hts).1.cells
      obtain⟨gp,hgp,hc⟩:=hcell k hlt
      have htb:ta=some ⟨gp,0,none⟩:=by injection htv with h1 _ _; rw[h1]; exact hgp
      subst htb
      have hpk:=uh HPL ps[k] (List.getElem_mem hlt)
      have hpz:(bsT ps[k]).size=ps[k].length:=by simp[bsT,ByteArray.size]
      have hpd:(bsT ps[k]).data.toList=ps[k]:=by simp[bsT]
      have HSW:=hide (sel_walk n (bsT ps[k]) wr (by omega) (by omega))
      rw[hpd] at HSW
      have HNX:Hid (∀ y,sSel n ps[k]=some y→LUp n RS ps (k+1) (joinS x y)):=fun y hp=>(uh hu).next hlt (by omega) hp
      have HNO:Hid (sSel n ps[k]=none→RS=none):=fun hp=>(uh hu).no hlt hp
      clear hcell htv hgp hpz hpd hu
      generalize ps[k]=p at *
      go_wp2_with fail
      refine (uh HSW).mono ?_
      rintro e w3 ⟨b3,o,oa,ol,oc,d,rfl,hyes⟩
      have hz3:=b3.size
      have hal:=al_b w3 (.cells #[.int .i64 o.k,.string o.name,.bool o.hasA,.bool o.hasB,.bool o.hasC,.int .i64 o.a,.int .i64 o.b,.int .i64 o.c,.slice oa ol oc] 40)
      have k4:SB (w3.alloc (.cells #[.int .i64 o.k,.string o.name,.bool o.hasA,.bool o.hasB,.bool o.hasC,.int .i64 o.a,.int .i64 o.b,.int .i64 o.c,.slice oa ol oc] 40)) w3.heap.size o.k o.name o.hasA o.hasB o.hasC o.a o.b o.c (.slice oa ol oc):=heap_alloc_new w3 _
      have b4:=below_next b3 hal
      have z4:(w3.alloc (.cells #[.int .i64 o.k,.string o.name,.bool o.hasA,.bool o.hasB,.bool o.hasC,.int .i64 o.a,.int .i64 o.b,.int .i64 o.c,.slice oa ol oc] 40)).heap.size=w3.heap.size+1:=by simp
      have hgs4:=(uh hgs).below b4
      have hts4:TS (w3.alloc (.cells #[.int .i64 o.k,.string o.name,.bool o.hasA,.bool o.hasB,.bool o.hasC,.int .i64 o.a,.int .i64 o.b,.int .i64 o.c,.slice oa ol oc] 40)) (w.heap.size+1+1+1) (.slice (some ⟨gp,0,none⟩) ps.length tc) ps:=own_below (uh hts).1 b4
      have hyes4:∀ y,sSel n p=some y→o=y.1∧d=(y.2:Int)∧∃ bl,ORow fopE (w3.alloc (.cells #[.int .i64 o.k,.string o.name,.bool o.hasA,.bool o.hasB,.bool o.hasC,.int .i64 o.a,.int .i64 o.b,.int .i64 o.c,.slice oa ol oc] 40)) (.slice oa ol oc) o.cond bl∧Fsh wr.heap.size bl:=fun y hy=>by
       obtain⟨h1,h2,bl,h3,h4⟩:=hyes y hy
       exact⟨h1,h2,bl,h3.below hal,h4⟩
      have HY:=hide hyes4
      have HG4:=hide hgs4
      have HT4:=hide hts4
      have HK4:=hide k4
      clear hyes hyes4 hgs4 hts4 hal b3 b4 HSW c20 c21 f20 f21 c50 c51 k4
      go_upto_region 18 with fail
      generalize (w3.alloc (.cells #[.int .i64 o.k,.string o.name,.bool o.hasA,.bool o.hasB,.bool o.hasC,.int .i64 o.a,.int .i64 o.b,.int .i64 o.c,.slice oa ol oc] 40))=w4 at *
      obtain⟨c20,c21⟩:=(uh HG4).r2.cs
      obtain⟨f20,f21⟩:=(uh HG4).r2.fz
      obtain⟨c50,c51⟩:=(uh HG4).r5.cs
      cases hp:sSel n p with
      | none=>
       have HR4:Hid (RR=none):=by show _=_; rw[uh HR3,uh HNO hp]; rfl
       clear hp HNX HNO HY hgs hts
       have e:(none:Option XS).isSome=false:=rfl
       rw[e]
       go_wp2
       try simp only[Exit.inBlock,Exit.then]
       refine bodyPost_ret (results_cell_2 rfl _ _ w.heap.size 43 #[_,_] (0,0) _ _ _ rfl rfl rfl (putN_full (uh HG4).r2 [_,_] rfl) Tryz.underlying43 rfl (by kernel_rfl)) rfl ?_
       exact (uh HG4).bad (uh HR4)
      | some y=>
       obtain⟨hoy,rfl,ib,rowo,fsho⟩:=uh HY y hp
       have e:(some y).isSome=true:=rfl
       rw[e]
       have hy2:=sSel_len hp
       have HN2:=hide (uh HNX y hp)
       obtain⟨s0,s1,s2,s3,s4,s5,s6,s7,s8⟩:=(uh HK4).cs
       have hal:=al_b w4 (.cells #[.int .i64 o.k,.string o.name,.bool o.hasA,.bool o.hasB,.bool o.hasC,.int .i64 o.a,.int .i64 o.b,.int .i64 o.c,.slice oa ol oc] 40)
       have G5:=hide ((uh HG4).below hal)
       have T5:=hide (own_below (uh HT4) hal)
       have EL:=hide (show selE.E (w4.alloc (.cells #[.int .i64 o.k,.string o.name,.bool o.hasA,.bool o.hasB,.bool o.hasC,.int .i64 o.a,.int .i64 o.b,.int .i64 o.c,.slice oa ol oc] 40)) [.int .i64 o.k,.string o.name,.bool o.hasA,.bool o.hasB,.bool o.hasC,.int .i64 o.a,.int .i64 o.b,.int .i64 o.c,.slice oa ol oc] o ib from ⟨_,rfl,rowo.below hal⟩)
       have hwr5:=(uh hgs).r5.lt
       have FI:=hide (fsho.mono (show w.heap.size+1≤wr.heap.size by omega))
       have AP:Hid (∀ b∈ib,b ∉ bl):=fun b hb hbl=>by have h1:=fsho.2 b hb; have h2:=(uh hgs).row.lt b hbl; omega
       have IB:Hid (∀ b∈ib,w.heap.size+1+1 < b):=fun b hb=>by have h1:=fsho.2 b hb; omega
       have FS:=hide fsho
       have HOY:=hide hoy
       have h4w:w2.heap.size≤w4.heap.size:=by omega
       have h4b:w.heap.size+1≤w4.heap.size:=by omega
       clear hp HNX HNO HY hal rowo fsho hoy z4 e
       go_wp2_with (at_builtin; refine wpl_app1 ekSel rfl (.tmp 73) (.tmp 75) rfl rfl (uh G5).row (uh G5).fsh (vs:=[.int .i64 o.k,.string o.name,.bool o.hasA,.bool o.hasB,.bool o.hasC,.int .i64 o.a,.int .i64 o.b,.int .i64 o.c,.slice oa ol oc]) (y:=o) (uh EL) (uh FI) (uh AP) rfl (by exact lit_cells w4 [_,_,_,_,_,_,_,_,_] _) (sel_one _ _ _ _ _ _ _ _ _ _ _) (by simp; omega) (by omega) ?_)
       intro v5 w5 bl5 hA
       have G6:=hide ((uh G5).app (uh IB) hA)
       have hg5:∀ g,(Value.slice (some ⟨gp,0,none⟩) ps.length tc).ownBlock=some g→g < w2.heap.size∧∀ b∈bl5,b≠g:=fun g hg=>by
        obtain⟨h1,h2⟩:=(uh hts).2 g hg
        refine⟨h1,fun b hb=>?_⟩
        rcases hA.sub b hb with h3 | h3 | h3
        ·exact h2 b h3
        ·have:=(uh FS).2 b h3; omega
        ·rw[h3]; simp; omega
       have hgp5:w.heap.size+1+1+1≤gp:=(World.ownsRow.lt (uh T5) gp rfl).1
       have T6:Hid (TS (w5.setCell ⟨w.heap.size+1+1,1,none⟩ v5) (w.heap.size+1+1+1) (.slice (some ⟨gp,0,none⟩) ps.length tc) ps):=own_keep (uh T5) fun b hb=>by
        have hbg:b=gp:=by simpa [Value.ownBlock] using hb
        subst hbg
        refine (Below.heap_setCell _ _ _ _ (by show _≠w.heap.size+1+1; omega)).trans (hA.block (uh G5).row ?_ ?_)
        ·have:=(World.ownsRow.lt (uh T5) b rfl).2; exact this
        ·exact fun hbl=>((uh hts).2 b rfl).2 b hbl rfl
       have RF:=((uh G5).r5.appd hA (uh G5).row (uh G5).n5).fz.2
       have RC:=((uh G5).r5.appd hA (uh G5).row (uh G5).n5).cs.2
       have hz5:=hA.grown.size
       simp at hz5
       obtain⟨va,vc,rfl,-,-⟩:=hA.row.form
       rw[List.length_append,List.length_singleton] at G6 T6
       have HG5:=hide hg5
       have HOX:Hid (x.1++[o]=(joinS x y).1):=by show _=_; rw[uh HOY]; rfl
       have HJ2:Hid ((joinS x y).2=max x.2 y.2):=rfl
       clear hA hg5
       rw[uh HOX] at G6
       by_cases hd:x.2 < y.2
       ·have hdI:(x.2:Int) < (y.2:Int):=by omega
        have HM:Hid ((y.2:Int)=((joinS x y).2:Int)):=by show _=_; rw[uh HJ2]; omega
        go_wp2
        go_roundw
        case rel=>exact⟨k+1,joinS x y,va,_,vc,bl5,by omega,by go_num,by rw[uh HM],HN2,⟨uh T6,uh HG5⟩,by simp[World.setCell]; omega,G6⟩
        case measure=>simp[intOf]; omega
       ·have hdI:¬ (x.2:Int) < (y.2:Int):=by omega
        have HM:Hid ((x.2:Int)=((joinS x y).2:Int)):=by show _=_; rw[uh HJ2]; omega
        go_wp2
        go_roundw
        case rel=>exact⟨k+1,joinS x y,va,_,vc,bl5,by omega,by go_num,by rw[uh HM],HN2,⟨uh T6,uh HG5⟩,by simp[World.setCell]; omega,G6⟩
        case measure=>simp[intOf]; omega
     ·have hltI:¬ (k:Int) < (ps.length:Int):=by omega
      have HR4:Hid (RR=some ((⟨deep,x.1⟩,x.2),dr s (i+m))):=by show _=_; rw[uh HR3,(uh hu).fin (by omega)]; rfl
      have HNN:Hid (((i:Int)+(m:Int))=((s.data.toList.length - (dr s (i+m)).length:Nat) : Int)):=by show _=_; rw[data_len,dr_len]; omega
      clear hu
      go_wp2
      try simp only[Exit.inBlock,Exit.then]
      refine bodyPost_ret (results_cell_2 rfl _ _ w.heap.size 43 #[_,_] (0,0) _ _ _ rfl rfl rfl (putN_full (uh hgs).r2 [_,_] rfl) Tryz.underlying43 rfl (by kernel_rfl)) rfl ?_
      exact (uh hgs).good (uh HR4) (uh HNN)
 | false=>
  have hh:=of_decide_eq_false (uh HPB)
  have HR2:Hid (RR=if i=0 then none else nmP deep (dr s i)):=by show _=_; rw[uh HR,if_neg hh]
  obtain⟨c20,c21⟩:=(uh HGS).r2.cs
  obtain⟨f20,f21⟩:=(uh HGS).r2.fz
  obtain⟨c50,c51⟩:=(uh HGS).r5.cs
  have hg5:=(uh HGS).r5.lt
  clear hh HR HPB HI2
  by_cases h0:i=0
  ·have HR3:Hid (RR=none):=by show _=_; rw[uh HR2,if_pos h0]
   have h0I:(i:Int)=0:=by omega
   clear h0 HR2
   go_wp2
   refine bodyPost_ret (results_cell_2 rfl _ _ w.heap.size 43 #[_,_] (0,0) _ _ _ rfl rfl rfl (putN_full (uh HGS).r2 [_,_] rfl) Tryz.underlying43 rfl (by kernel_rfl)) rfl ?_
   exact (uh HGS).bad (uh HR3)
  ·have HR3:Hid (RR=nmP deep (dr s i)):=by show _=_; rw[uh HR2,if_neg h0]
   have h0I:((i:Int) == 0)=false:=by rw[beq_eq_false_iff_ne]; omega
   have HA:=hide (uh HAT 42 i wc (by decide))
   clear HR2 HAT
   go_wp2_with fail
   refine (uh HA).mono ?_
   rintro e w1 ⟨rfl,rfl⟩
   clear HA
   obtain⟨ps,hps⟩ : ∃ b,decide (bt s i=42)=b:=⟨_,rfl⟩
   rw[hps]
   have HPS:=hide hps
   clear hps
   cases ps with
   | true=>
    have h42:=of_decide_eq_true (uh HPS)
    have hib:i < s.size:=bt_in (by rw[h42]; decide)
    have HR4:Hid (RR=some ((⟨deep,[]++[allS]⟩,0),dr s (i+1))):=by show _=_; rw[uh HR3,nmP_star h42]; rfl
    have HNN:Hid (((i:Int)+1)=((s.data.toList.length - (dr s (i+1)).length:Nat) : Int)):=by show _=_; rw[data_len,dr_len]; omega
    have hal:=al_b wc (.cells #[.int .i64 2,.string ⟨#[]⟩,.bool false,.bool false,.bool false,.int .i64 0,.int .i64 0,.int .i64 0,.slice none 0 0] 40)
    have G5:=hide ((uh HGS).below hal)
    clear h42 HPS hal HR3
    go_wp2_with (at_builtin; refine wpl_app1 ekSel rfl (.tmp 94) (.tmp 96) rfl rfl (uh G5).row (uh G5).fsh (vs:=[.int .i64 2,.string ⟨#[]⟩,.bool false,.bool false,.bool false,.int .i64 0,.int .i64 0,.int .i64 0,.slice none 0 0]) (y:=allS) (selE_lit _ _ _) (Fsh.nil _) (by simp) rfl (by exact lit_cells wc [_,_,_,_,_,_,_,_,_] _) (sel_one _ _ _ _ _ _ _ _ _ _ _) (by simp; omega) (by simp) ?_)
    intro v5 w5 bl5 hA
    have g6:=(uh G5).app (by simp) hA
    have G6:=hide g6
    have RF:=((uh G5).r5.appd hA (uh G5).row (uh G5).n5).fz.2
    have RC:=((uh G5).r5.appd hA (uh G5).row (uh G5).n5).cs.2
    obtain⟨va,vc,rfl,-,-⟩:=hA.row.form
    rw[List.length_singleton] at G6 g6
    obtain⟨c20,c21⟩:=g6.r2.cs
    obtain⟨f20,f21⟩:=g6.r2.fz
    obtain⟨c50,c51⟩:=g6.r5.cs
    clear hA g6
    go_wp2
    refine bodyPost_ret (results_cell_2 rfl _ _ w.heap.size 43 #[_,_] (0,0) _ _ _ rfl rfl rfl (putN_full (uh G6).r2 [_,_] rfl) Tryz.underlying43 rfl (by kernel_rfl)) rfl ?_
    exact (uh G6).good (d:=0) (uh HR4) (uh HNN)
   | false=>
    have h42:=of_decide_eq_false (uh HPS)
    have HR4:Hid (RR=(pName (dr s i)).map fun p=>((⟨deep,[nameS p.1]⟩,0),p.2)):=by show _=_; rw[uh HR3,nmP_else h42]
    have HLW:=hide (fun (j:Nat) (hj:j < s.size) (w:World)=>letter_walk s[j] w)
    have HDW:=hide (fun (j:Nat) (hj:j < s.size) (w:World)=>digB_walk s[j] w)
    have HIN:=hide (fun (d:ByteArray) (w:World) (hd:d.size≤1048576)=>isName_walk d w hd)
    clear h42 HPS HR3
    go_wp2_with fail
    go_loopw [14] (fun jv wr=>∃ j:Nat,jv = .int .i64 (j:Int)∧Hid (NmU s i j)∧wc=wr) (fun jv _=>s.size - (intOf jv).toNat)
    case atStart=>exact⟨i,rfl,⟨Nat.le_refl _,hi,fun m hm h1 h2=>by omega⟩,rfl⟩
    case round=>
     obtain⟨j,rfl,hnm,rfl⟩:=hrel
     have hj1:=(uh hnm).1
     have hj2:=(uh hnm).2.1
     go_upto_region 30 with fail
     go_cut [118] from 103 to 118 (fun x wx=>(∃ b,x = .bool b∧(b=true→∃ hj:j < s.size,isNm s[j]=true)∧(b=false→j=s.size∨∃ hj:j < s.size,isNm s[j]=false))∧wc=wx)
     case first=>
      by_cases hj:j < s.size
      ·have jI:(j:Int) < (s.size:Int):=by omega
       have HL1:=hide (uh HLW j hj wc)
       have HD1:=hide (uh HDW j hj wc)
       cases hl:isLet s[j] with
       | true=>
        rw[hl] at HL1
        have HV:Hid (isNm s[j]=true):=by show _=_; unfold isNm; rw[hl]; rfl
        clear hl
        go_wp2_with fail
        refine (uh HL1).mono ?_
        rintro e w2 ⟨rfl,rfl⟩
        go_wp2
        go_meet
        case rel=>exact⟨⟨true,rfl,fun _=>⟨hj,uh HV⟩,fun h=>(by cases h)⟩,rfl⟩
       | false=>
        rw[hl] at HL1
        have HV:Hid (isNm s[j]=isDg s[j].toNat):=by show _=_; unfold isNm; rw[hl]; rfl
        clear hl
        go_wp2_with fail
        refine (uh HL1).mono ?_
        rintro e w2 ⟨rfl,rfl⟩
        go_wp2_with fail
        refine (uh HD1).mono ?_
        rintro e w2 ⟨rfl,rfl⟩
        rw[← uh HV]
        generalize hb:isNm s[j]=b
        have HB:=hide hb
        clear hb HV
        go_wp2
        go_meet
        case rel=>exact⟨⟨b,rfl,fun h=>⟨hj,(uh HB).trans h⟩,fun h=>.inr ⟨hj,(uh HB).trans h⟩⟩,rfl⟩
      ·have jI:¬ (j:Int) < (s.size:Int):=by omega
       go_wp2
       go_meet
       case rel=>exact⟨⟨false,rfl,fun h=>(by cases h),fun _=>.inl (by omega)⟩,rfl⟩
     obtain⟨⟨b,rfl,hyes,hno⟩,rfl⟩:=hcut
     cases b with
     | true=>
      obtain⟨hj,hc⟩:=hyes rfl
      have HS:=hide ((uh hnm).next hj hc)
      have jI:(j:Int) < (s.size:Int):=by omega
      clear hc hyes hno
      go_wp2
      go_roundw
      case rel=>exact⟨j+1,by go_num,HS,trivial⟩
      case measure=>simp[intOf]; omega
     | false=>
      obtain⟨hd,hpy,hpn⟩:=(uh hnm).fin (hno rfl)
      have HD:=hide hd
      have HPY:=hide hpy
      have HPN:=hide hpn
      have hbs:s.extract i j=bsT ((dr s i).take (j - i)):=ext_bs s i j
      have HBS:=hide hbs
      have i1:(i:Int)≤(j:Int):=by omega
      have i2:(j:Int)≤(s.size:Int):=by omega
      clear hd hpy hpn hbs hnm hyes hno HLW HDW
      have HIN2:=hide (uh HIN (s.extract i j) wc (by simp; omega))
      rw[uh HD] at HIN2
      clear HIN
      go_wp2_with fail
      refine (uh HIN2).mono ?_
      rintro e w1 ⟨rfl,rfl⟩
      clear HIN2
      cases hb:sName ((dr s i).take (j - i)) with
      | false=>
       have HF:Hid (RR=none):=by show _=_; rw[uh HR4,uh HPN hb]; rfl
       clear hb HPY HPN HBS HD HR4
       go_wp2
       try simp only[Exit.inBlock,Exit.then]
       refine bodyPost_ret (results_cell_2 rfl _ _ w.heap.size 43 #[_,_] (0,0) _ _ _ rfl rfl rfl (putN_full (uh HGS).r2 [_,_] rfl) Tryz.underlying43 rfl (by kernel_rfl)) rfl ?_
       exact (uh HGS).bad (uh HF)
      | true=>
       have HR5:Hid (RR=some ((⟨deep,[]++[nameS ((dr s i).take (j - i))]⟩,0),dr s j)):=by show _=_; rw[uh HR4,uh HPY hb]; rfl
       have HNN:Hid (((j:Int))=((s.data.toList.length - (dr s j).length:Nat) : Int)):=by show _=_; rw[data_len,dr_len]; omega
       clear hb HPY HPN HD HR4
       go_wp2
       have hab:Below wc.heap.size wc (wc.drew.alloc (.cells #[.int .i64 1,.string (s.extract i j),.bool false,.bool false,.bool false,.int .i64 0,.int .i64 0,.int .i64 0,.slice none 0 0] 40)):=⟨rfl,rfl,rfl,by simp,fun b hb=>Lib.alloc_old wc.drew _ b hb⟩
       have G5:=hide ((uh HGS).below hab)
       go_region_law (
        refine stp_app1 ekSel rfl (.tmp 129) (.tmp 135) rfl rfl (uh G5).row (uh G5).fsh (vs:=[.int .i64 1,.string (s.extract i j),.bool false,.bool false,.bool false,.int .i64 0,.int .i64 0,.int .i64 0,.slice none 0 0]) (y:=nameS ((dr s i).take (j - i))) ⟨.slice none 0 0,by rw[uh HBS]; rfl,ORow.nil _ _⟩ (Fsh.nil _) (by simp) rfl (by exact lit_cells wc.drew [_,_,_,_,_,_,_,_,_] _) (sel_one _ _ _ _ _ _ _ _ _ _ _) (by simp; omega) (by simp) ?_
        intro v5 w5 bl5 hA
        have g6:=(uh G5).app (x:=nameS ((dr s i).take (j - i))) (fun b hb=>by cases hb) hA
        obtain⟨va,vc,hva,-,-⟩:=hA.row.form
        have hv1:v5 = .slice va 1 vc:=hva
        subst hv1
        have G6:=hide g6
        have RF:=((uh G5).r5.appd hA (uh G5).row (uh G5).n5).fz.2
        have RC:=((uh G5).r5.appd hA (uh G5).row (uh G5).n5).cs.2
        obtain⟨c20,c21⟩:=g6.r2.cs
        obtain⟨f20,f21⟩:=g6.r2.fz
        obtain⟨c50,c51⟩:=g6.r5.cs
        clear hva
        clear hA g6)
       all_goals
        go_wp2
        try simp only[Exit.inBlock,Exit.then]
        refine bodyPost_ret (results_cell_2 rfl _ _ w.heap.size 43 #[_,_] (0,0) _ _ _ rfl rfl rfl (putN_full (uh G6).r2 [_,_] rfl) Tryz.underlying43 rfl (by kernel_rfl)) rfl ?_
        exact (uh G6).good (d:=0) (uh HR5) (uh HNN)
def GUp (n:Nat) (s:ByteArray) (R:Option XP) (i:Nat) (x:XP) : Prop:=∃ m,(dr s i).length < m∧R=segsP (sBr n) m x (dr s i)
theorem seg_rest {n:Nat} {s:ByteArray} {i:Nat} {y:XG} {t:Bs} (h:segP (sBr n) (dr s i)=some (y,t)) : t.length < (dr s i).length:=by
 rw[← seg_same] at h
 exact seg_len h
theorem segP_suffix {n:Nat} {l:Bs} {y:XG} {t:Bs} (h:segP (sBr n) l=some (y,t)) : ∃ g,l=g++t:=by
 have hnm:∀ {deep l t y},nmP deep l=some (y,t)→∃ g,l=g++t:=fun {deep l t y} h=>by
  cases l with
  | nil=>cases h
  | cons c r=>
   have h1:(if c=42 then some ((⟨deep,[allS]⟩,0),r) else (pName (c :: r)).map fun p=>((⟨deep,[nameS p.1]⟩,0),p.2))=some (y,t):=h
   split at h1
   ·injection h1 with h1; injection h1 with _ h1; exact⟨[c],by rw[← h1]; rfl⟩
   ·cases hp:pName (c :: r) with
    | none=>rw[hp] at h1; cases h1
    | some z=>
     rw[hp] at h1
     injection h1 with h1
     injection h1 with _ h1
     have:=(pName_some (s:=z.1) (t:=z.2) (by rw[hp])).1
     exact⟨z.1,by rw[this,← h1]⟩
 have hbr:∀ {deep r t y},brP (sBr n) deep r=some (y,t)→∃ g,r=g++t:=fun {deep r t y} h=>by
  unfold brP at h
  cases hb:sBr n r with
  | none=>rw[hb] at h; cases h
  | some z=>
   rw[hb] at h
   injection h with h
   injection h with _ h
   unfold sBr at hb
   split at hb
   ·cases hb
   ·split at hb
    ·rename_i k _ _
     cases hs:sSels n (r.take (k - 2)) with
     | none=>rw[hs] at hb; cases hb
     | some q=>
      rw[hs] at hb
      injection hb with hb
      exact⟨r.take (k - 1),by rw[← h,← hb]; exact (List.take_append_drop _ _).symm⟩
    ·cases hb
 cases l with
 | nil=>cases h
 | cons c r=>
  have h1:(if c=91 then brP (sBr n) false r else if c=46 then dotP (sBr n) r else none)=some (y,t):=h
  split at h1
  ·obtain⟨g,hg⟩:=hbr h1; exact⟨c :: g,by rw[hg]; rfl⟩
  ·split at h1
   ·cases r with
    | nil=>cases h1
    | cons d u=>
     rw[dotP_con] at h1
     split at h1
     ·cases u with
      | nil=>cases h1
      | cons e v=>
       simp only at h1
       split at h1
       ·obtain⟨g,hg⟩:=hbr h1; exact⟨c :: d :: e :: g,by rw[hg]; rfl⟩
       ·obtain⟨g,hg⟩:=hnm h1; exact⟨c :: d :: g,by rw[hg]; rfl⟩
     ·obtain⟨g,hg⟩:=hnm h1; exact⟨c :: g,by rw[hg]; rfl⟩
   ·cases h1
theorem GUp.no {n:Nat} {s:ByteArray} {R:Option XP} {i:Nat} {x:XP} (h:GUp n s R i x) (hi:i < s.size) (hp:segP (sBr n) (dr s i)=none) : R=none:=by
 obtain⟨m,hm,hR⟩:=h
 obtain⟨k,rfl⟩ : ∃ k,m=k+1:=⟨m - 1,by omega⟩
 rw[dr_at hi] at hR hp
 rw[hR]
 show (match segP (sBr n) (s[i] :: dr s (i+1)) with | none=>none | some (y,t)=>segsP (sBr n) k (joinG x y) t)=none
 rw[hp]
theorem GUp.next {n:Nat} {s:ByteArray} {R:Option XP} {i:Nat} {x:XP} (h:GUp n s R i x) (hi:i < s.size) {y:XG} {t:Bs} (hp:segP (sBr n) (dr s i)=some (y,t)) : ∃ k,i+k≤s.size∧0 < k∧(dr s i).length - t.length=k∧GUp n s R (i+k) (joinG x y):=by
 obtain⟨m,hm,hR⟩:=h
 obtain⟨q,rfl⟩ : ∃ q,m=q+1:=⟨m - 1,by omega⟩
 have hl:=seg_rest hp
 obtain⟨g,hg⟩:=segP_suffix hp
 have hgl:g.length+t.length=s.size - i:=by have:=dr_len s i; rw[hg,List.length_append] at this; exact this
 have ht:dr s (i+g.length)=t:=by rw[← dr_dr,hg]; simp
 refine⟨g.length,by omega,?_,?_,q,?_,?_⟩
 ·rw[hg,List.length_append] at hl; omega
 ·rw[hg,List.length_append]; omega
 ·rw[dr_len] at hm ⊢
  rw[dr_len,← ht,dr_len] at hl
  omega
 ·rw[ht]
  rw[dr_at hi] at hR hp
  rw[hR]
  show (match segP (sBr n) (s[i] :: dr s (i+1)) with | none=>none | some (y,t)=>segsP (sBr n) q (joinG x y) t)=_
  rw[hp]
theorem GUp.fin {n:Nat} {s:ByteArray} {R:Option XP} {i:Nat} {x:XP} (h:GUp n s R i x) (hi:s.size≤i) : R=some x:=by
 obtain⟨m,hm,hR⟩:=h
 obtain⟨q,rfl⟩ : ∃ q,m=q+1:=⟨m - 1,by omega⟩
 rw[hR,dr_end hi]; rfl
def PRet (w:World) (r:List PSeg×Int) (e:Ending) (w':World) : Prop:=
 Below w.heap.size w w'∧∃ (v:Value) (bl:List Nat),e = .returned (.tuple #[v,.int .i64 r.2])∧ORow segE w' v r.1 bl∧Fsh w.heap.size bl
theorem seg_one (d:Bool) (q:Option Addr) (l m:Nat) : ∀ u∈[Value.bool d,.slice q l m],u.oneCell'=true:=by
 intro u hu; simp at hu; rcases hu with rfl | rfl <;> rfl
structure PS (w wr:World) (L:List PSeg) (q:Value) (bl:List Nat) : Prop where
 bel:Below w.heap.size w wr
 r0:ORow segE wr (.slice (some ⟨w.heap.size,0,none⟩) 0 0) [] [w.heap.size]
 row:ORow segE wr q L bl
 fsh:Fsh (w.heap.size+1) bl
 sz:w.heap.size+1≤wr.heap.size
section
variable {w wr w1 w2:World} {L:List PSeg} {q v':Value} {bl bl' ib:List Nat} {x:PSeg}
theorem PS.below (h:PS w wr L q bl) (hb:Below wr.heap.size wr w1) : PS w w1 L q bl:=⟨below_next h.bel hb,h.r0.below hb,h.row.below hb,h.fsh,by have:=h.sz; have:=hb.size; omega⟩
theorem PS.app (h:PS w w1 L q bl) (hA:Appd segE (w.heap.size+1) w1 w2 q v' bl ib bl' (L++[x])) : PS w w2 (L++[x]) v' bl':=
 ⟨hA.below h.row (h.fsh.mono (by omega)) h.bel (by have:=h.sz; omega),h.r0.keep fun b hb=>hA.block h.row (h.r0.lt b hb) fun hbl=>by
  have:=h.fsh.2 b hbl
  simp at hb; omega,hA.row,hA.fsh,by have:=h.sz; have:=hA.grown.size; omega⟩
theorem PS.none (h:PS w wr L q bl) {r:List PSeg×Int} {c:Int} (hr:r=([],c)) : PRet w r (.returned (.tuple #[.slice (some ⟨w.heap.size,0,none⟩) 0 0,.int .i64 c])) wr:=by
 subst hr
 exact⟨h.bel,_,_,rfl,h.r0,by simp,by simp⟩
theorem PS.done (h:PS w wr L q bl) {r:List PSeg×Int} {c:Int} (hr:r=(L,c)) : PRet w r (.returned (.tuple #[q,.int .i64 c])) wr:=by
 subst hr
 exact⟨h.bel,_,_,rfl,h.row,h.fsh.mono (by omega)⟩
end
theorem specParse_walk (s:ByteArray) (w:World) (hs:s.size≤1048576) : Calls Tryz.prog 9 #[.string s] w (PRet w (pathR (sBr 1001) s.data.toList)):=by
 have hro:=orow_empty segE w
 have hal:=al_b w (.cells #[] 43)
 have hz:(w.alloc (.cells #[] 43)).heap.size=w.heap.size+1:=by simp
 by_cases h1:1000 < s.size
 ·have HR:Hid (pathR (sBr 1001) s.data.toList=([],1)):=by show _=_; unfold pathR; rw[if_pos (by rw[data_len]; exact h1)]
  have h1I:(1000:Int) < (s.size:Int):=by omega
  have HX:Hid (PRet w (pathR (sBr 1001) s.data.toList) (.returned (.tuple #[.slice (some ⟨w.heap.size,0,none⟩) 0 0,.int .i64 1])) (w.alloc (.cells #[] 43))):=by
   show PRet _ _ _ _
   rw[uh HR]
   exact⟨hal,_,_,rfl,hro,by simp,by simp⟩
  clear hro hal hz h1
  go_enter Tryz.func9,Tryz.ntmps9
  go_wp2
  go_ret2
  exact uh HX
 ·have h1I:¬ (1000:Int) < (s.size:Int):=by omega
  have HA:=hide (atD_walk s 36 0 (w.alloc (.cells #[] 43)) (by decide))
  by_cases h36:bt s 0=36
  ·have hib:0 < s.size:=bt_in (by rw[h36]; decide)
   have hc:s[0]=36:=by have h:=h36; rw[bt_at s 0 hib] at h; exact (toNat_is (by decide)).1 h
   have hd:=dr_at hib
   rw[dr_zero,hc] at hd
   have HR:Hid (pathR (sBr 1001) s.data.toList=match segsP (sBr 1001) ((dr s 1).length+1) ([],0) (dr s 1) with
     | none=>([],2)
     | some x=>if 50 < x.2 then ([],3) else (x.1,0)):=by
    show _=_
    have e:pathR (sBr 1001) (36 :: dr s 1)=(if 1000 < (36 :: dr s 1:Bs).length then (([],1) : List PSeg×Int) else (if (36:UInt8)=36 then (match segsP (sBr 1001) ((dr s 1).length+1) ([],0) (dr s 1) with
     | none=>([],2)
     | some x=>if 50 < x.2 then ([],3) else (x.1,0)) else ([],2))):=rfl
    rw[hd,e,if_neg (by have:=data_len s; rw[hd] at this; rw[this]; exact h1),if_pos rfl]
   have HU:Hid (GUp 1001 s (segsP (sBr 1001) ((dr s 1).length+1) ([],0) (dr s 1)) 1 ([],0)):=⟨_,Nat.lt_succ_self _,rfl⟩
   generalize segsP (sBr 1001) ((dr s 1).length+1) ([],0) (dr s 1)=RS at *
   rw[decide_eq_true h36] at HA
   have hal2:=al_b (w.alloc (.cells #[] 43)) (.cells #[] 43)
   have hro2:=orow_empty segE (w.alloc (.cells #[] 43))
   rw[hz] at hro2
   have S0:Hid (PS w ((w.alloc (.cells #[] 43)).alloc (.cells #[] 43)) [] (.slice (some ⟨w.heap.size+1,0,none⟩) 0 0) [w.heap.size+1]):=⟨below_next hal hal2,hro.below hal2,hro2,⟨by simp,by simp⟩,by simp⟩
   generalize pathR (sBr 1001) s.data.toList=RR at *
   clear hro hal hz hc hd h36 hal2 hro2
   go_enter Tryz.func9,Tryz.ntmps9
   go_wp2_with fail
   refine (uh HA).mono ?_
   rintro e w1 ⟨rfl,rfl⟩
   clear HA
   go_wp2
   generalize ((w.alloc (.cells #[] 43)).alloc (.cells #[] 43))=w0 at *
   go_loopw [5,6,7] (fun ov dv iv wr=>∃ (i:Nat) (x:XP) (qa:Option Addr) (ql qc:Nat) (bl:List Nat),i≤s.size∧1≤i∧x.1.length≤i∧iv = .int .i64 (i:Int)∧dv = .int .i64 (x.2:Int)∧ov = .slice qa ql qc∧Hid (GUp 1001 s RS i x)∧Hid (PS w wr x.1 (.slice qa ql qc) bl)) (fun _ _ iv _=>s.size - (intOf iv).toNat)
   case atStart=>exact⟨1,([],0),_,_,_,_,by omega,Nat.le_refl _,by simp,rfl,rfl,rfl,HU,S0⟩
   case round=>
    obtain⟨i,x,qa,ql,qc,bl,hi,hi1,hxl,rfl,rfl,rfl,hu,hps⟩:=hrel
    clear HU S0
    by_cases hlt:i < s.size
    ·have hltI:(i:Int) < (s.size:Int):=by omega
     have hleI:(i:Int)≤(s.size:Int):=by omega
     have hsz:=(uh hps).sz
     have HW:=hide (seg_walk 1001 (s.extract i s.size) wr (by simp; omega) (by simp; omega))
     rw[dr_ext] at HW
     go_wp2_with fail
     refine (uh HW).mono ?_
     rintro e w2 ⟨b2,deep,ya,yl,yc,n,d,rfl,hno,hyes⟩
     have hz2:=b2.size
     have hal:=al_b w2 (.cells #[.bool deep,.slice ya yl yc] 43)
     have k3:GB (w2.alloc (.cells #[.bool deep,.slice ya yl yc] 43)) w2.heap.size deep (.slice ya yl yc):=heap_alloc_new w2 _
     have P3:=hide ((uh hps).below (below_next b2 hal))
     clear HW
     cases hp:segP (sBr 1001) (dr s i) with
     | none=>
      have hn:=hno hp
      subst hn
      have HR2:Hid (RR=([],2)):=by show _=_; rw[uh HR,(uh hu).no hlt hp]
      clear hno hyes hp hu k3 hal b2
      go_wp2
      try simp only[Exit.inBlock,Exit.then]
      go_ret2
      exact (uh P3).none (uh HR2)
     | some z=>
      obtain⟨y,t⟩:=z
      obtain⟨h1,h2,h3,ib,row,fsh⟩:=hyes y t hp
      obtain⟨k,hk1,hk2,hk3,hup⟩:=(uh hu).next hlt hp
      rw[hk3] at h2
      subst h2; subst h3
      have nI:((k:Int) == 0)=false:=by rw[beq_eq_false_iff_ne]; omega
      have hal4:=al_b (w2.alloc (.cells #[.bool deep,.slice ya yl yc] 43)) (.cells #[.bool deep,.slice ya yl yc] 43)
      have z3:(w2.alloc (.cells #[.bool deep,.slice ya yl yc] 43)).heap.size=w2.heap.size+1:=by simp
      have P4:=hide ((uh P3).below hal4)
      have EL:=hide (show segE.E ((w2.alloc (.cells #[.bool deep,.slice ya yl yc] 43)).alloc (.cells #[.bool deep,.slice ya yl yc] 43)) [.bool deep,.slice ya yl yc] y.1 ib from ⟨_,by rw[h1],row.below (below_next hal hal4)⟩)
      have FI:=hide (fsh.mono (show w.heap.size+1≤wr.heap.size by omega))
      have AP:Hid (∀ b∈ib,b ∉ bl):=fun b hb hbl=>by have h1:=fsh.2 b hb; have h2:=(uh hps).row.lt b hbl; omega
      have HUP:=hide hup
      obtain⟨e0,e1⟩:=k3.cs
      clear hno hyes hp hu hal hal4 b2 row fsh hup h1 hk3 P3 k3
      go_upto_region 13 with fail
      generalize (w2.alloc (.cells #[.bool deep,.slice ya yl yc] 43))=w3 at *
      have h3b:w.heap.size+1≤w3.heap.size:=by omega
      clear z3
      go_wp2_with (at_builtin; refine wpl_app1 ekSeg rfl (.tmp 36) (.tmp 38) rfl rfl (uh P4).row (uh P4).fsh (vs:=[.bool deep,.slice ya yl yc]) (y:=y.1) (uh EL) (uh FI) (uh AP) rfl (by exact lit_cells w3 [_,_] _) (seg_one _ _ _ _) (by simp; omega) (by omega) ?_)
      intro v5 w5 bl5 hA
      have P5:=hide ((uh P4).app hA)
      obtain⟨va,vc,rfl,-,-⟩:=hA.row.form
      have hln:(x.1++[y.1]).length=x.1.length+1:=by simp
      have HJ:Hid (x.1++[y.1]=(joinG x y).1):=rfl
      have HJ2:Hid ((joinG x y).2=max x.2 y.2):=rfl
      have HJL:Hid ((joinG x y).1.length≤i+k):=by show _≤_; rw[← uh HJ,hln]; omega
      clear hA hln
      by_cases hd:x.2 < y.2
      ·have hdI:(x.2:Int) < (y.2:Int):=by omega
       have HM:Hid ((y.2:Int)=((joinG x y).2:Int)):=by show _=_; rw[uh HJ2]; omega
       go_wp2
       go_roundw
       case rel=>exact⟨i+k,joinG x y,va,_,vc,bl5,hk1,by omega,uh HJL,by go_num,by rw[uh HM],rfl,HUP,P5⟩
       case measure=>simp[intOf]; omega
      ·have hdI:¬ (x.2:Int) < (y.2:Int):=by omega
       have HM:Hid ((x.2:Int)=((joinG x y).2:Int)):=by show _=_; rw[uh HJ2]; omega
       go_wp2
       go_roundw
       case rel=>exact⟨i+k,joinG x y,va,_,vc,bl5,hk1,by omega,uh HJL,by go_num,by rw[uh HM],rfl,HUP,P5⟩
       case measure=>simp[intOf]; omega
    ·have hltI:¬ (i:Int) < (s.size:Int):=by omega
     have HF:=hide ((uh hu).fin (by omega))
     by_cases h50:50 < x.2
     ·have h50I:(50:Int) < (x.2:Int):=by omega
      have HR2:Hid (RR=([],3)):=by show _=_; rw[uh HR,uh HF]; simp only; rw[if_pos h50]
      clear hu
      go_wp2
      try simp only[Exit.inBlock,Exit.then]
      go_ret2
      exact (uh hps).none (uh HR2)
     ·have h50I:¬ (50:Int) < (x.2:Int):=by omega
      have HR2:Hid (RR=(x.1,0)):=by show _=_; rw[uh HR,uh HF]; simp only; rw[if_neg h50]
      clear hu
      go_wp2
      try simp only[Exit.inBlock,Exit.then]
      go_ret2
      exact (uh hps).done (uh HR2)
  ·have HR:Hid (pathR (sBr 1001) s.data.toList=([],2)):=by
    show _=_
    unfold pathR
    rw[if_neg (by rw[data_len]; exact h1)]
    cases hd:s.data.toList with
    | nil=>rfl
    | cons c r=>
     rw[← dr_zero] at hd
     obtain⟨-,hb,-⟩:=bt_dr hd
     rw[hb] at h36
     simp only
     rw[if_neg (fun e=>h36 (by rw[e]; rfl))]
   have HX:Hid (PRet w (pathR (sBr 1001) s.data.toList) (.returned (.tuple #[.slice (some ⟨w.heap.size,0,none⟩) 0 0,.int .i64 2])) (w.alloc (.cells #[] 43))):=by
    show PRet _ _ _ _
    rw[uh HR]
    exact⟨hal,_,_,rfl,hro,by simp,by simp⟩
   rw[decide_eq_false h36] at HA
   clear hro hal hz h1 h36
   go_enter Tryz.func9,Tryz.ntmps9
   go_wp2_with fail
   refine (uh HA).mono ?_
   rintro e w1 ⟨rfl,rfl⟩
   go_wp2
   go_ret2
   exact uh HX
end Go.Proofs.YtkjcgkfejdogbaaGreatDoor
