import Derived.Deep.LoopGhost
import Derived.Deep.RegionLaw
import Derived.Test.YtkjcgkfejdogbaaGreatDoorBz19
import Derived.Test.YtkjcgkfejdogbaaGreatDoorBz17
import Derived.Deep.CutRange
set_option maxRecDepth 100000
set_option maxHeartbeats 8000000
namespace Go.Proofs.YtkjcgkfejdogbaaGreatDoor
open Go.RowKit
def FRet (w:World) (R:Option PFOp) (e:Ending) (w':World) : Prop:=
 Below w.heap.size w w'∧∃ (o:PFOp) (q:Value) (bl:List Nat),e = .returned (.tuple #[.agg #[.int .i64 o.k,.int .i64 o.n,.string o.s,.bool o.root,q],.bool R.isSome])∧ORow stepE w' q o.steps bl∧Fsh w.heap.size bl∧∀ x,R=some x→o=x
theorem FRet.zero {w w':World} {R:Option PFOp} (hb:Below w.heap.size w w') (hR:R=none) : FRet w R (.returned (.tuple #[.agg #[.int .i64 0,.int .i64 0,.string ⟨#[]⟩,.bool false,.slice none 0 0],.bool false])) w':=
 ⟨hb,⟨0,0,⟨#[]⟩,false,[]⟩,.slice none 0 0,[],by rw[hR]; rfl,ORow.nil _ _,Fsh.nil _,fun x hx=>by rw[hR] at hx; cases hx⟩
structure RS (w wr:World) (root:Bool) (acc:List PStep) (q:Value) (bl:List Nat) : Prop where
 bel:Below w.heap.size w wr
 r2:FB wr w.heap.size 0 0 ⟨#[]⟩ false (.slice none 0 0)
 r4:FB wr (w.heap.size+1) 0 0 ⟨#[]⟩ false (.slice none 0 0)
 r5:FB wr (w.heap.size+1+1+1) 8 0 ⟨#[]⟩ root q
 row:ORow stepE wr q acc bl
 fsh:Fsh (w.heap.size+2) bl
 n5:w.heap.size+1+1+1 ∉ bl
theorem RS.below {w wr w1:World} {root:Bool} {acc:List PStep} {q:Value} {bl:List Nat} (h:RS w wr root acc q bl) (hb:Below wr.heap.size wr w1) : RS w w1 root acc q bl:=
 ⟨below_next h.bel hb,h.r2.below hb,h.r4.below hb,h.r5.below hb,h.row.below hb,h.fsh,h.n5⟩
theorem RS.app {w w1 w2:World} {root:Bool} {acc:List PStep} {q v':Value} {bl bl':List Nat} {x:PStep} (h:RS w w1 root acc q bl) (hA:Appd stepE (w.heap.size+2) w1 w2 q v' bl [] bl' (acc++[x])) :
  RS w (w2.setCell ⟨w.heap.size+1+1+1,4,none⟩ v') root (acc++[x]) v' bl':=by
 have h2:w.heap.size ∉ bl:=fun hb=>by have:=h.fsh.2 _ hb; omega
 have h4:w.heap.size+1 ∉ bl:=fun hb=>by have:=h.fsh.2 _ hb; omega
 have h5:=h.r5.lt
 have n5':w.heap.size+1+1+1 ∉ bl':=fun hb=>by
  rcases hA.sub _ hb with hb | hb | hb
  ·exact h.n5 hb
  ·simp at hb
  ·omega
 refine⟨(hA.below h.row (h.fsh.mono (by omega)) h.bel (by omega)).setCell (by show _≤w.heap.size+1+1+1; omega) _,(h.r2.appd hA h.row h2).other (by show _≠w.heap.size+1+1+1; omega) _,(h.r4.appd hA h.row h4).other (by show _≠w.heap.size+1+1+1; omega) _,(h.r5.appd hA h.row h.n5).set4 _,hA.row.set n5' _,hA.fsh,n5'⟩
theorem RS.bad {w wr:World} {root:Bool} {acc:List PStep} {q:Value} {bl:List Nat} (h:RS w wr root acc q bl) {R:Option PFOp} (hR:R=none) : FRet w R (.returned (.tuple #[.agg #[.int .i64 0,.int .i64 0,.string ⟨#[]⟩,.bool false,.slice none 0 0],.bool false])) (putN wr w.heap.size 0 [.int .i64 0,.int .i64 0,.string ⟨#[]⟩,.bool false,.slice none 0 0]):=
 ⟨putN_below h.bel (Nat.le_refl _) _ _,⟨0,0,⟨#[]⟩,false,[]⟩,.slice none 0 0,[],by rw[hR]; rfl,ORow.nil _ _,Fsh.nil _,fun x hx=>by rw[hR] at hx; cases hx⟩
theorem RS.good {w wr:World} {root:Bool} {acc:List PStep} {q:Value} {bl:List Nat} (h:RS w wr root acc q bl) {R:Option PFOp} (hR:R=some (opR' 8 (root,acc))) : FRet w R (.returned (.tuple #[.agg #[.int .i64 8,.int .i64 0,.string ⟨#[]⟩,.bool root,q],.bool true])) (putN wr w.heap.size 0 [.int .i64 8,.int .i64 0,.string ⟨#[]⟩,.bool root,q]):=by
 refine⟨putN_below h.bel (Nat.le_refl _) _ _,opR' 8 (root,acc),q,bl,by rw[hR]; rfl,h.row.keep fun b hb=>putN_other (fun e=>?_) _ _,h.fsh.mono (by omega),fun x hx=>by rw[hR] at hx; injection hx⟩
 have:=h.fsh.2 b hb
 omega
theorem RS.start (w:World) (root:Bool) : RS w ((((w.alloc (.cells #[.int .i64 0,.int .i64 0,.string ⟨#[]⟩,.bool false,.slice none 0 0] 37)).alloc (.cells #[.int .i64 0,.int .i64 0,.string ⟨#[]⟩,.bool false,.slice none 0 0] 37)).alloc (.cells #[] 107)).alloc (.cells #[.int .i64 8,.int .i64 0,.string ⟨#[]⟩,.bool root,.slice (some ⟨w.heap.size+1+1,0,none⟩) 0 0] 37)) root [] (.slice (some ⟨w.heap.size+1+1,0,none⟩) 0 0) [w.heap.size+1+1]:=by
 generalize hA:(w.alloc (.cells #[.int .i64 0,.int .i64 0,.string ⟨#[]⟩,.bool false,.slice none 0 0] 37))=wA
 have a1:FB wA w.heap.size 0 0 ⟨#[]⟩ false (.slice none 0 0):=by rw[← hA]; exact heap_alloc_new w _
 have a2:Below w.heap.size w wA:=by rw[← hA]; exact al_b w _
 have a3:wA.heap.size=w.heap.size+1:=by rw[← hA]; simp
 generalize hB:(wA.alloc (.cells #[.int .i64 0,.int .i64 0,.string ⟨#[]⟩,.bool false,.slice none 0 0] 37))=wB
 have b0:Below wA.heap.size wA wB:=by rw[← hB]; exact al_b wA _
 have b1:FB wB (w.heap.size+1) 0 0 ⟨#[]⟩ false (.slice none 0 0):=by rw[← a3,← hB]; exact heap_alloc_new wA _
 have b3:wB.heap.size=w.heap.size+1+1:=by rw[← hB,← a3]; simp
 have hE:=empty_row wB 107 3
 generalize hC:(wB.alloc (.cells #[] 107))=wC at *
 have c0:Below wB.heap.size wB wC:=by rw[← hC]; exact al_b wB _
 have c3:wC.heap.size=w.heap.size+1+1+1:=by rw[← hC,← b3]; simp
 generalize hD:(wC.alloc (.cells #[.int .i64 8,.int .i64 0,.string ⟨#[]⟩,.bool root,.slice (some ⟨w.heap.size+1+1,0,none⟩) 0 0] 37))=wD
 have d0:Below wC.heap.size wC wD:=by rw[← hD]; exact al_b wC _
 have d1:FB wD (w.heap.size+1+1+1) 8 0 ⟨#[]⟩ root (.slice (some ⟨w.heap.size+1+1,0,none⟩) 0 0):=by rw[← c3,← hD]; exact heap_alloc_new wC _
 rw[b3] at hE
 refine⟨below_next (below_next (below_next a2 b0) c0) d0,((a1.below b0).below c0).below d0,(b1.below c0).below d0,d1,⟨[],rfl,fun _ _ _ h=>by simp at h,own_mono (own_below hE d0) (Nat.zero_le _),by simp[Value.ownBlock]⟩,⟨by simp,by simp⟩,by simp⟩
def NoStop (s:ByteArray) (i j:Nat) : Prop:=i≤j∧j≤s.size∧∀ m (hm:m < s.size),i≤m→m < j→isStop s[m]=false
theorem NoStop.next {s:ByteArray} {i j:Nat} (h:NoStop s i j) (hj:j < s.size) (hc:isStop s[j]=false) : NoStop s i (j+1):=
 ⟨by have:=h.1; omega,by omega,fun m hm h1 h2=>by
  by_cases e:m=j
  ·subst e; exact hc
  ·exact h.2.2 m hm h1 (by omega)⟩
theorem twS_at {s:ByteArray} : ∀ (n i j:Nat),j=i+n→NoStop s i j→(j=s.size∨∃ hj:j < s.size,isStop s[j]=true)→twS s i=(s.data.toList.drop i).take n
 | 0,i,j,hn,h,he=>by
  obtain rfl:j=i:=by omega
  unfold twS
  rcases he with he | ⟨hj,hc⟩
  ·rw[dr_end (by omega)]; rfl
  ·rw[dr_at hj,List.takeWhile_cons,hc]; rfl
 | n+1,i,j,hn,h,he=>by
  have hi:i < s.size:=by have:=h.2.1; omega
  have hc:=h.2.2 i hi (Nat.le_refl _) (by omega)
  have ih:=twS_at n (i+1) j (by omega) ⟨by omega,h.2.1,fun m hm h1 h2=>h.2.2 m hm (by omega) h2⟩ he
  have e:twS s i=s[i] :: twS s (i+1):=by
   unfold twS
   rw[dr_at hi,List.takeWhile_cons,hc]; rfl
  rw[e,ih]
  have:=dr_at hi
  unfold dr at this
  rw[this]; rfl
theorem NoStop.tw {s:ByteArray} {i j:Nat} (h:NoStop s i j) (he:j=s.size∨∃ hj:j < s.size,isStop s[j]=true) : (s.extract i j).data.toList=twS s i∧i+(twS s i).length=j∧s.extract i j=bsT (twS s i):=by
 have h1:=h.1
 have h2:=h.2.1
 have e:=twS_at (j - i) i j (by omega) h he
 have e2:(s.extract i j).data.toList=(s.data.toList.drop i).take (j - i):=Lib.extract_data _ _ _
 refine⟨by rw[e2,e],?_,by rw[ext_bs,e]⟩
 rw[e,List.length_take,List.length_drop,data_len]; omega
theorem sIn_parts (x:Bs) : ∃ n i,strV (sStr x) = .tuple #[.string n,.bool (sStr x).isSome]∧intV (sInt x) = .tuple #[.int .i64 i,.bool (sInt x).isSome]∧(∀ p,sIn x=some p→p=⟨(sInt x).isSome,n,i⟩)∧((sStr x).isSome=false→(sInt x).isSome=false→sIn x=none)∧((sStr x).isSome=true∨(sInt x).isSome=true→∃ p,sIn x=some p):=by
 refine⟨_,_,rfl,rfl,fun p hp=>?_,fun h1 h2=>?_,fun h=>?_⟩
 ·unfold sIn at hp
  cases hs:sStr x with
  | some v=>
   rw[hs] at hp
   injection hp with hp
   have hi:sInt x=none:=by
    cases x with
    | nil=>rfl
    | cons c r=>
     have h39:c=39:=by
      by_cases h:c=39
      ·exact h
      ·exfalso
       have:sStr (c :: r)=none:=by show (if c=39∧sE r=some [] then sD r.dropLast else none)=none; rw[if_neg (fun e=>h e.1)]
       rw[this] at hs; cases hs
     cases hi:sInt (c :: r) with
     | none=>rfl
     | some n=>
      have:=(sInt_all hi).2
      rw[h39] at this
      simp only[List.all_cons,Bool.and_eq_true] at this
      exact absurd this.1 (by decide)
   rw[hi,← hp]; rfl
  | none=>
   rw[hs] at hp
   cases hi:sInt x with
   | none=>rw[hi] at hp; cases hp
   | some n=>
    rw[hi] at hp
    injection hp with hp
    rw[← hp]; rfl
 ·unfold sIn
  cases hs:sStr x with
  | some v=>rw[hs] at h1; cases h1
  | none=>
   cases hi:sInt x with
   | some v=>rw[hi] at h2; cases h2
   | none=>rfl
 ·unfold sIn
  cases hs:sStr x with
  | some v=>exact⟨_,rfl⟩
  | none=>
   cases hi:sInt x with
   | some v=>exact⟨_,rfl⟩
   | none=>rw[hs,hi] at h; rcases h with h | h <;> cases h
theorem stop_is {c:UInt8} : isStop c=true↔c=46∨c=91:=by unfold isStop; simp
theorem step_one (b:Bool) (t:ByteArray) (i:Int) : ∀ u∈[Value.bool b,.string t,.int .i64 i],u.oneCell'=true:=by
 intro u hu; simp at hu; rcases hu with rfl | rfl | rfl <;> rfl
theorem ref_map {s:ByteArray} {root:Bool} {R:Option (List PStep)} (h:sRef s.data.toList=R.map fun p=>(root,p)) : (sRef s.data.toList).map (opR' 8)=R.map fun p=>opR' 8 (root,p):=by
 rw[h]; cases R <;> rfl
theorem ne_t {c d:UInt8} (h:¬ c=d) : (((c.toNat:Nat) : Int) != ((d.toNat:Nat) : Int))=true:=by rw[bne_iff_ne]; exact u8_not h
theorem ne_f {c d:UInt8} (h:c=d) : (((c.toNat:Nat) : Int) != ((d.toNat:Nat) : Int))=false:=by rw[h]; simp
theorem eq_t {c d:UInt8} (h:c=d) : (((c.toNat:Nat) : Int) == ((d.toNat:Nat) : Int))=true:=by rw[h]; simp
theorem eq_f {c d:UInt8} (h:¬ c=d) : (((c.toNat:Nat) : Int) == ((d.toNat:Nat) : Int))=false:=beq_eq_false_iff_ne.2 (u8_not h)
theorem ref_walk (s:ByteArray) (w:World) (hs:s.size≤1048576) : Calls Tryz.prog 108 #[.string s] w (FRet w ((sRef s.data.toList).map (opR' 8))):=by
 by_cases h0:0 < s.size
 ·have h0I:(0:Int) < (s.size:Int):=by omega
  have t1:¬ ((s.size:Nat) : Int) < 1:=by omega
  by_cases hc:s[0]=36∨s[0]=64
  ·obtain⟨R,hU,hR⟩:=(RefUp.start h0).2 hc
   have HR:=hide (ref_map hR)
   have HU:=hide hU
   clear hR hU
   have b36:(((s[0].toNat:Nat) : Int) == 36)=decide (s[0]=36):=by
    by_cases h:s[0]=36
    ·rw[decide_eq_true h]; exact eq_t h
    ·rw[decide_eq_false h]; exact eq_f h
   generalize decide (s[0]=36)=root at *
   generalize (sRef s.data.toList).map (opR' 8)=RR at *
   have HIN:Hid (∀ (d:ByteArray) (w:World),d.size≤1048576→Calls Tryz.prog 46 #[.string d] w fun e w'=>e = .returned (.bool (sName d.data.toList))∧w=w'):=fun d w hd=>isName_walk d w hd
   have HCL:Hid (∀ (d:ByteArray) (w:World),d.size≤1048576→Calls Tryz.prog 41 #[.string d] w fun e w'=>e = .returned (.int .i64 (natO (clo 0 0 d.data.toList)))∧w=w'):=fun d w hd=>close_walk d w hd
   go_enter Tryz.func108,Tryz.ntmps108
   go_upto_region 2 with fail
   go_cut [27] from 15 to 27 (fun x wx=>x = .bool false∧wx=(w.alloc (.cells #[.int .i64 0,.int .i64 0,.string ⟨#[]⟩,.bool false,.slice none 0 0] 37)).alloc (.cells #[.int .i64 0,.int .i64 0,.string ⟨#[]⟩,.bool false,.slice none 0 0] 37))
   case first=>
    rcases hc with hc | hc
    ·have n64:(((s[0].toNat:Nat) : Int) != 64)=true:=ne_t (d:=64) (by rw[hc]; decide)
     have n36:(((s[0].toNat:Nat) : Int) != 36)=false:=ne_f hc
     clear hc
     go_wp2
     go_meet
     case rel=>exact⟨rfl,rfl⟩
    ·have n64:(((s[0].toNat:Nat) : Int) != 64)=false:=ne_f hc
     clear hc
     go_wp2
     go_meet
     case rel=>exact⟨rfl,rfl⟩
   obtain⟨rfl,rfl⟩:=hcut
   go_wp2_with fail
   go_loopg [6] (s.size+1 - 1) (fun g iv wr=>∃ (k:Nat) (acc:List PStep) (q:Value) (bl:List Nat),g=s.size+1 - k∧iv = .int .i64 (k:Int)∧1≤k∧k≤s.size∧acc.length≤k∧Hid (RefUp s R k acc)∧Hid (RS w wr root acc q bl))
   case atStart=>exact⟨1,[],_,_,rfl,rfl,Nat.le_refl _,by omega,by simp,HU,RS.start w root⟩
   case round=>
    obtain⟨k,acc,q,bl,hg,rfl,hk1,hk,hal,hu,hrs⟩:=hrel
    clear HU b36 t1 hc
    obtain⟨qa,qc,rfl,-,-⟩:=(uh hrs).row.form
    obtain⟨c20,c21,c22,c23,c24⟩:=(uh hrs).r2.c
    obtain⟨f20,f21,f22,f23,f24⟩:=(uh hrs).r2.fz
    by_cases hlt:k < s.size
    ·have hltI:(k:Int) < (s.size:Int):=by omega
     have k0:(0:Int)≤(k:Int):=by omega
     by_cases h46:s[k]=46
     ·have b46:(((s[k].toNat:Nat) : Int) == 46)=true:=eq_t h46
      go_wp2_with fail
      go_loopw [7] (fun jv w'=>∃ j:Nat,jv = .int .i64 (j:Int)∧Hid (NoStop s (k+1) j)∧wr=w') (fun jv _=>s.size - (intOf jv).toNat)
      case atStart=>exact⟨k+1,by go_num,⟨Nat.le_refl _,by omega,fun m hm h1 h2=>by omega⟩,rfl⟩
      case round=>
       obtain⟨j,rfl,hns,rfl⟩:=hrel
       have hj1:=(uh hns).1
       have hj2:=(uh hns).2.1
       go_upto_region 9 with fail
       go_cut [59] from 44 to 59 (fun x wx=>(∃ b,x = .bool b∧(b=true→∃ hj:j < s.size,isStop s[j]=false)∧(b=false→j=s.size∨∃ hj:j < s.size,isStop s[j]=true))∧wr=wx)
       case first=>
        by_cases hj:j < s.size
        ·have jI:(j:Int) < (s.size:Int):=by omega
         by_cases hc:s[j]=46
         ·have n46:(((s[j].toNat:Nat) : Int) != 46)=false:=ne_f hc
          have HC:=hide (stop_is.2 (.inl hc))
          clear hc
          go_wp2
          go_meet
          case rel=>exact⟨⟨false,rfl,fun h=>(by cases h),fun _=>.inr ⟨hj,uh HC⟩⟩,rfl⟩
         ·have n46:(((s[j].toNat:Nat) : Int) != 46)=true:=ne_t (d:=46) hc
          by_cases hd:s[j]=91
          ·have n91:(((s[j].toNat:Nat) : Int) != 91)=false:=ne_f hd
           have HC:=hide (stop_is.2 (.inr hd))
           clear hc hd
           go_wp2
           go_meet
           case rel=>exact⟨⟨false,rfl,fun h=>(by cases h),fun _=>.inr ⟨hj,uh HC⟩⟩,rfl⟩
          ·have n91:(((s[j].toNat:Nat) : Int) != 91)=true:=ne_t (d:=91) hd
           have HC:Hid (isStop s[j]=false):=by
            show _=_
            cases h:isStop s[j] with
            | false=>rfl
            | true=>rcases stop_is.1 h with h | h; exact absurd h hc; exact absurd h hd
           clear hc hd
           go_wp2
           go_meet
           case rel=>exact⟨⟨true,rfl,fun _=>⟨hj,uh HC⟩,fun h=>by cases h⟩,rfl⟩
        ·have jI:¬ (j:Int) < (s.size:Int):=by omega
         go_wp2
         go_meet
         case rel=>exact⟨⟨false,rfl,fun h=>(by cases h),fun _=>.inl (by omega)⟩,rfl⟩
       obtain⟨⟨b,rfl,hyes,hno⟩,rfl⟩:=hcut
       cases b with
       | true=>
        obtain⟨hj,hc⟩:=hyes rfl
        have HS:=hide ((uh hns).next hj hc)
        have jI:(j:Int) < (s.size:Int):=by omega
        clear hc b46 h46 hyes hno
        go_wp2
        go_roundw
        case rel=>exact⟨j+1,by go_num,HS,trivial⟩
        case measure=>simp[intOf]; omega
       | false=>
        obtain⟨hd,hlen,hbs⟩:=(uh hns).tw (hno rfl)
        have HD:=hide hd
        have HL:=hide hlen
        have HBS:=hide hbs
        have i1:(k:Int)+1≤(j:Int):=by omega
        have i2:(j:Int)≤(s.size:Int):=by omega
        have i3:(0:Int)≤(k:Int)+1:=by omega
        clear hd hlen hbs b46 hns hyes hno
        have HIN2:=hide (uh HIN (s.extract (k+1) j) wr (by simp; omega))
        rw[uh HD] at HIN2
        go_wp2_with fail
        refine (uh HIN2).mono ?_
        rintro e w1 ⟨rfl,rfl⟩
        clear HIN2
        cases hb:sName (twS s (k+1)) with
        | false=>
         have HF:Hid (RR=none):=by show _=_; rw[uh HR,(uh hu).dotNo hlt h46 hb]; rfl
         obtain⟨c40,c41,c42,c43,c44⟩:=(uh hrs).r4.c
         clear hb h46
         go_wp2
         try simp only[Exit.inBlock,Exit.then]
         refine bodyPost_ret (results_cell_tmp rfl _ _ w.heap.size 37 #[_,_,_,_,_] (0,0) _ _ rfl rfl (putN_full (uh hrs).r2 [_,_,_,_,_] rfl) Tryz.underlying37 rfl (by kernel_rfl)) rfl ?_
         exact (uh hrs).bad (uh HF)
        | true=>
         have HNX:=hide ((uh hu).dot hlt h46 hb)
         clear hb h46
         have c54:=(uh hrs).r5.c.2.2.2.2
         go_wp2
         obtain⟨k1,hk1e⟩ : ∃ k1,k+1=k1:=⟨_,rfl⟩
         have wk:IntKind.i64.wrap ((k:Int)+1)=(k1:Int):=by rw[IntKind.wrap_i64]; omega
         have wk0:(0:Int)≤(k1:Int):=by omega
         have wk1:(k1:Int)≤(j:Int):=by omega
         rw[hk1e] at HBS HNX HL
         have hab:Below wr.heap.size wr (wr.drew.alloc (.cells #[.bool false,.string (s.extract k1 j),.int .i64 0] 107)):=⟨rfl,rfl,rfl,by simp,fun b hb=>Lib.alloc_old wr.drew _ b hb⟩
         have RS2:=hide ((uh hrs).below hab)
         have hfz:=(uh hrs).r5.lt
         go_region_law (
          refine stp_app1 ekStep rfl (.tmp 71) (.tmp 78) rfl rfl (uh RS2).row (uh RS2).fsh (vs:=[.bool false,.string (s.extract k1 j),.int .i64 0]) (y:=stName (twS s k1)) ⟨by rw[uh HBS]; rfl,rfl⟩ (Fsh.nil _) (by simp) rfl (by exact lit_cells wr.drew [_,_,_] _) (step_one _ _ _) (by simp; omega) (by omega) ?_
          intro v2 w2 bl2 hA
          have RS3:=hide ((uh RS2).app hA)
          obtain⟨va,vc,rfl,-,-⟩:=hA.row.form
          rw[List.length_append,List.length_singleton] at RS3
          have RF:=((uh RS2).r5.appd hA (uh RS2).row (uh RS2).n5).fz.2.2.2.2
          have RC:=((uh RS2).r5.appd hA (uh RS2).row (uh RS2).n5).c.2.2.2.2
          clear hA)
         all_goals
          have HL2:k1+(twS s k1).length=j:=uh HL
          rw[HL2] at HNX
          go_wp2
          go_roundg (s.size+1 - j)
          case rel=>exact⟨j,_,_,_,rfl,rfl,by omega,by omega,by simp; omega,HNX,RS3⟩
          case measure=>omega
     ·have b46:(((s[k].toNat:Nat) : Int) == 46)=false:=eq_f (d:=46) h46
      by_cases h91:s[k]=91
      ·have b91:(((s[k].toNat:Nat) : Int) == 91)=true:=eq_t h91
       have e0:(s.extract k s.size).data.toList=dr s k:=by
        rw[Lib.extract_data]; unfold dr; exact List.take_of_length_le (by rw[List.length_drop,data_len]; exact Nat.le_refl _)
       have HCL2:=hide (uh HCL (s.extract k s.size) wr (by simp; omega))
       rw[e0] at HCL2
       clear e0
       have hkI:(k:Int)≤(s.size:Int):=by omega
       have HBN:=hide fun h=>(uh hu).brNo hlt h91 h
       have HBR:=hide fun q hq h2=>(uh hu).br hlt h91 (q:=q) hq h2
       clear h46 h91
       go_wp2_with fail
       refine (uh HCL2).mono ?_
       rintro e w1 ⟨rfl,rfl⟩
       clear HCL2
       cases hcl:clo 0 0 (dr s k) with
       | none=>
        have HF:Hid (RR=none):=by show _=_; rw[uh HR,uh HBN (by rw[hcl]; decide)]; rfl
        obtain⟨c40,c41,c42,c43,c44⟩:=(uh hrs).r4.c
        clear hcl HBN HBR
        have hnat:natO none = -1:=rfl
        rw[hnat]
        clear hnat
        go_wp2
        try simp only[Exit.inBlock,Exit.then]
        refine bodyPost_ret (results_cell_tmp rfl _ _ w.heap.size 37 #[_,_,_,_,_] (0,0) _ _ rfl rfl (putN_full (uh hrs).r2 [_,_,_,_,_] rfl) Tryz.underlying37 rfl (by kernel_rfl)) rfl ?_
        exact (uh hrs).bad (uh HF)
       | some m=>
        have hnat:natO (some m)=(m:Int):=rfl
        rw[hnat]
        clear hnat
        by_cases h2:m < 2
        ·have HF:Hid (RR=none):=by show _=_; rw[uh HR,uh HBN (by rw[hcl]; show (m:Int) < 2; omega)]; rfl
         have h2I:(m:Int) < 2:=by omega
         obtain⟨c40,c41,c42,c43,c44⟩:=(uh hrs).r4.c
         clear hcl HBN HBR
         go_wp2
         try simp only[Exit.inBlock,Exit.then]
         refine bodyPost_ret (results_cell_tmp rfl _ _ w.heap.size 37 #[_,_,_,_,_] (0,0) _ _ rfl rfl (putN_full (uh hrs).r2 [_,_,_,_,_] rfl) Tryz.underlying37 rfl (by kernel_rfl)) rfl ?_
         exact (uh hrs).bad (uh HF)
        ·obtain⟨hkq,hno1,hno2,hyes⟩:=uh HBR m hcl (by omega)
         have h2I:¬ (m:Int) < 2:=by omega
         obtain⟨n,i,es,ei,hp,hn0,hn1⟩:=sIn_parts (inS s k m)
         generalize (sStr (inS s k m)).isSome=bS at *
         generalize (sInt (inS s k m)).isSome=bI at *
         have hin:s.extract (k+1) (k+m - 1)=bsT (inS s k m):=by
          rw[ext_bs]
          show _=bsT (((s.data.toList.drop (k+1))).take (m - 2))
          congr 2
          omega
         have HST:Hid (∀ w,Calls Tryz.prog 66 #[.string (bsT (inS s k m))] w fun e w'=>e = .returned (.tuple #[.string n,.bool bS])∧Below w.heap.size w w'):=fun w=>by
          have:=str_walk (bsT (inS s k m)) w (by rw[← hin]; simp; omega)
          rw[← es]; exact this
         have HIT:Hid (∀ w,Calls Tryz.prog 67 #[.string (bsT (inS s k m))] w fun e w'=>e = .returned (.tuple #[.int .i64 i,.bool bI])∧w=w'):=fun w=>by
          have:=int_walk (bsT (inS s k m)) w (by rw[← hin]; simp; omega)
          rw[← ei]; exact this
         have HIN3:=hide hin
         have H1:=hide hno1
         have H2:=hide hno2
         have H3:=hide hyes
         have HP:=hide hp
         have H4:=hide hn0
         have H5:=hide hn1
         have hx:k+m - 1 < s.size:=by omega
         clear hin hno1 hno2 hyes hp hn0 hn1 es ei hcl HBN HBR HIN HCL
         have hkm:(k:Int)+(m:Int) - 1=((k+m - 1:Nat) : Int):=by omega
         have j1:(k:Int)+1≤(k:Int)+(m:Int) - 1:=by omega
         have j2:(k:Int)+(m:Int) - 1≤(s.size:Int):=by omega
         go_wp2_with fail
         rw[uh HIN3]
         refine (uh HST _).mono ?_
         rintro e w1 ⟨rfl,b1⟩
         have RS1:=hide ((uh hrs).below b1)
         clear HST b1 hrs c20 c21 c22 c23 c24 f20 f21 f22 f23 f24
         go_wp2_with fail
         refine (uh HIT _).mono ?_
         rintro e w2 ⟨rfl,rfl⟩
         clear HIT
         obtain⟨c20,c21,c22,c23,c24⟩:=(uh RS1).r2.c
         obtain⟨f20,f21,f22,f23,f24⟩:=(uh RS1).r2.fz
         go_upto_region 23 with fail
         go_cut [125] from 111 to 125 (fun x wx=>(∃ b,x = .bool b∧(b=true→RR=none)∧(b=false→∃ p,sIn (inS s k m)=some p∧RefUp s R (k+m) (acc++[p])))∧w1=wx)
         case first=>
          have hmI:((k+m - 1:Nat) : Int) < (s.size:Int):=by omega
          by_cases h93:s[k+m - 1]=93
          ·have n93:(((s[k+m - 1].toNat:Nat) : Int) != 93)=false:=ne_f h93
           have H6:=hide fun p=>uh H3 p (fun _=>h93)
           clear h93
           cases bS with
           | true=>
            have H7:=hide (uh H5 (.inl rfl))
            go_wp2
            go_meet
            case rel=>
             refine⟨⟨false,rfl,fun h=>(by cases h),fun _=>?_⟩,rfl⟩
             obtain⟨p,hp⟩:=uh H7
             exact⟨p,hp,uh H6 p hp⟩
           | false=>
            cases bI with
            | true=>
             have H7:=hide (uh H5 (.inr rfl))
             go_wp2
             go_meet
             case rel=>
              refine⟨⟨false,rfl,fun h=>(by cases h),fun _=>?_⟩,rfl⟩
              obtain⟨p,hp⟩:=uh H7
              exact⟨p,hp,uh H6 p hp⟩
            | false=>
             have HF:Hid (RR=none):=by show _=_; rw[uh HR,uh H2 (uh H4 rfl rfl)]; rfl
             go_wp2
             go_meet
             case rel=>exact⟨⟨true,rfl,fun _=>uh HF,fun h=>(by cases h)⟩,rfl⟩
          ·have n93:(((s[k+m - 1].toNat:Nat) : Int) != 93)=true:=ne_t (d:=93) h93
           have HF:Hid (RR=none):=by show _=_; rw[uh HR,uh H1 (fun _=>h93)]; rfl
           clear h93
           go_wp2
           go_meet
           case rel=>exact⟨⟨true,rfl,fun _=>uh HF,fun h=>(by cases h)⟩,rfl⟩
         obtain⟨⟨b,rfl,hb1,hb2⟩,rfl⟩:=hcut
         cases b with
         | true=>
          have HF:Hid (RR=none):=hb1 rfl
          obtain⟨c40,c41,c42,c43,c44⟩:=(uh RS1).r4.c
          clear hb1 hb2
          go_wp2
          try simp only[Exit.inBlock,Exit.then]
          refine bodyPost_ret (results_cell_tmp rfl _ _ w.heap.size 37 #[_,_,_,_,_] (0,0) _ _ rfl rfl (putN_full (uh RS1).r2 [_,_,_,_,_] rfl) Tryz.underlying37 rfl (by kernel_rfl)) rfl ?_
          exact (uh RS1).bad (uh HF)
         | false=>
          obtain⟨p,hsp,hup⟩:=hb2 rfl
          have hpe:=uh HP p hsp
          have HUP:=hide hup
          have HPE:=hide hpe
          have c54:=(uh RS1).r5.c.2.2.2.2
          have hfz:=(uh RS1).r5.lt
          clear hb1 hb2 hsp hup hpe H1 H2 H3 H4 H5 HP
          have RS2:=hide ((uh RS1).below (al_b w1 (.cells #[.bool bI,.string n,.int .i64 i] 107)))
          go_wp2_with (at_builtin; refine wpl_app1 ekStep rfl (.tmp 128) (.tmp 133) rfl rfl (uh RS2).row (uh RS2).fsh (vs:=[.bool bI,.string n,.int .i64 i]) (y:=p) ⟨by rw[uh HPE],rfl⟩ (Fsh.nil _) (by simp) rfl (by exact lit_cells w1 [_,_,_] _) (step_one _ _ _) (by simp; omega) (by omega) ?_)
          intro v2 w2 bl2 hA
          have RS3:=hide ((uh RS2).app hA)
          obtain⟨va,vc,rfl,-,-⟩:=hA.row.form
          rw[List.length_append,List.length_singleton] at RS3
          have RF:=((uh RS2).r5.appd hA (uh RS2).row (uh RS2).n5).fz.2.2.2.2
          have RC:=((uh RS2).r5.appd hA (uh RS2).row (uh RS2).n5).c.2.2.2.2
          clear hA
          go_wp2
          go_roundg (s.size+1 - (k+m))
          case rel=>exact⟨k+m,_,_,_,rfl,by go_num,by omega,by omega,by simp; omega,HUP,RS3⟩
          case measure=>omega
      ·have b91:(((s[k].toNat:Nat) : Int) == 91)=false:=eq_f (d:=91) h91
       have HF:Hid (RR=none):=by show _=_; rw[uh HR,(uh hu).other hlt h46 h91]; rfl
       obtain⟨c40,c41,c42,c43,c44⟩:=(uh hrs).r4.c
       clear h46 h91
       go_wp2
       try simp only[Exit.inBlock,Exit.then]
       refine bodyPost_ret (results_cell_tmp rfl _ _ w.heap.size 37 #[_,_,_,_,_] (0,0) _ _ rfl rfl (putN_full (uh hrs).r2 [_,_,_,_,_] rfl) Tryz.underlying37 rfl (by kernel_rfl)) rfl ?_
       exact (uh hrs).bad (uh HF)
    ·have HF:Hid (RR=some (opR' 8 (root,acc))):=by show _=_; rw[uh HR,(uh hu).fin (by omega)]; rfl
     have hltI:¬ (k:Int) < (s.size:Int):=by omega
     obtain⟨c50,c51,c52,c53,c54⟩:=(uh hrs).r5.c
     go_wp2
     try simp only[Exit.inBlock,Exit.then]
     refine bodyPost_ret (results_cell_tmp rfl _ _ w.heap.size 37 #[_,_,_,_,_] (0,0) _ _ rfl rfl (putN_full (uh hrs).r2 [_,_,_,_,_] rfl) Tryz.underlying37 rfl (by kernel_rfl)) rfl ?_
     exact (uh hrs).good (uh HF)
  ·have HN:=hide ((RefUp.start h0).1 hc)
   have n64:(((s[0].toNat:Nat) : Int) != 64)=true:=ne_t (d:=64) fun h=>hc (.inr h)
   have n36:(((s[0].toNat:Nat) : Int) != 36)=true:=ne_t (d:=36) fun h=>hc (.inl h)
   clear hc
   go_enter Tryz.func108,Tryz.ntmps108
   go_wp2
   go_returns
   exact FRet.zero (below_next (al_b w _) (al_b _ _)) (by rw[uh HN]; rfl)
 ·have HN:Hid (sRef s.data.toList=none):=by
   show _=_
   have:s.data.toList=[]:=List.eq_nil_of_length_eq_zero (by rw[data_len]; omega)
   rw[this]; rfl
  have t1:((s.size:Nat) : Int) < 1:=by omega
  clear h0
  go_enter Tryz.func108,Tryz.ntmps108
  go_wp2
  go_returns
  exact FRet.zero (below_next (al_b w _) (al_b _ _)) (by rw[uh HN]; rfl)
theorem FRet.lit {w w1:World} {R:Option PFOp} {k n:Int} {t:ByteArray} (hb:Below w.heap.size w w1) (hR:R=some ⟨k,n,t,false,[]⟩) : FRet w R (.returned (.tuple #[.agg #[.int .i64 k,.int .i64 n,.string t,.bool false,.slice none 0 0],.bool true])) w1:=
 ⟨hb,⟨k,n,t,false,[]⟩,.slice none 0 0,[],by rw[hR]; rfl,ORow.nil _ _,Fsh.nil _,fun x hx=>by rw[hR] at hx; injection hx⟩
theorem FRet.ref {w w3:World} {R:Option PFOp} {k:Int} {r0:Option (Bool×List PStep)} (hR:R=r0.map (opR' k)) {o:PFOp} {q:Value} {bl:List Nat} (hb:Below w.heap.size w w3) (row:ORow stepE w3 q o.steps bl) (fsh:Fsh w.heap.size bl) (hx:∀ x,r0.map (opR' 8)=some x→o=x) :
  FRet w R (.returned (.tuple #[.agg #[.int .i64 k,.int .i64 o.n,.string o.s,.bool o.root,q],.bool r0.isSome])) w3:=by
 refine⟨hb,{ o with k:=k },q,bl,by rw[hR]; cases r0 <;> rfl,row,fsh,fun x h=>?_⟩
 rw[hR] at h
 cases r0 with
 | none=>cases h
 | some y=>
  injection h with h
  rw[hx _ rfl,← h]; rfl
theorem sOpd_int {l:Bs} {n:Int} (h:sInt l=some n) : sOpd l=some (opI n):=by unfold sOpd; rw[h]
theorem sOpd_str {l:Bs} {v:Bs} (h:sInt l=none) (h2:sStr l=some v) : sOpd l=some (opS v):=by unfold sOpd; rw[h,h2]
theorem sOpd_else {l:Bs} (h:sInt l=none) (h2:sStr l=none) : sOpd l=(if l=wdT then some (opK 3) else if l=wdF then some (opK 4) else if l=wdN then some (opK 5)
   else if wdL.isPrefixOf l=true∧l.getLast?=some 41 then (sRef ((l.drop 7).take (l.length - 8))).map (opR' 7) else (sRef l).map (opR' 6)):=by unfold sOpd; rw[h,h2]
theorem last_at {s:ByteArray} (h:0 < s.size) : s.data.toList.getLast?=some s[s.size - 1]:=by
 rw[List.getLast?_eq_getElem?,List.getElem?_eq_getElem (by rw[data_len]; omega)]
 simp[ByteArray.getElem_eq_getElem_data]
theorem operand_walk (s:ByteArray) (w:World) (hs:s.size≤1048576) : Calls Tryz.prog 110 #[.string s] w (FRet w (sOpd s.data.toList)):=by
 have HI:=hide fun w=>int_walk s w hs
 have HS:=hide fun w=>str_walk s w hs
 have hA:FB (w.alloc (.cells #[.int .i64 0,.int .i64 0,.string ⟨#[]⟩,.bool false,.slice none 0 0] 37)) w.heap.size 0 0 ⟨#[]⟩ false (.slice none 0 0):=heap_alloc_new w _
 have hB:=al_b w (.cells #[.int .i64 0,.int .i64 0,.string ⟨#[]⟩,.bool false,.slice none 0 0] 37)
 have HA:=hide hA
 have HB:=hide hB
 clear hA hB
 cases hi:sInt s.data.toList with
 | some n=>
  rw[hi] at HI
  have HR:=hide (sOpd_int hi)
  clear hi HS HA HB
  have e:intV (some n) = .tuple #[.int .i64 n,.bool true]:=rfl
  rw[e] at HI
  clear e
  go_enter Tryz.func110,Tryz.ntmps110
  go_wp2_with fail
  refine (uh HI _).mono ?_
  rintro e w1 ⟨rfl,rfl⟩
  go_wp2
  go_returns
  exact FRet.lit (al_b w _) (uh HR)
 | none=>
  rw[hi] at HI
  have e:intV none = .tuple #[.int .i64 0,.bool false]:=rfl
  rw[e] at HI
  clear e
  cases ht:sStr s.data.toList with
  | some v=>
   rw[ht] at HS
   have e:strV (some v) = .tuple #[.string (bsT v),.bool true]:=rfl
   rw[e] at HS
   clear e
   have HR:=hide (sOpd_str hi ht)
   clear hi ht
   go_enter Tryz.func110,Tryz.ntmps110
   go_wp2_with fail
   refine (uh HI _).mono ?_
   rintro e w1 ⟨rfl,rfl⟩
   go_wp2_with fail
   refine (uh HS _).mono ?_
   rintro e w1 ⟨rfl,b1⟩
   have h1:=(uh HA).below b1
   have HB1:=hide (below_next (uh HB) b1)
   obtain⟨c0,c1,c2,c3,c4⟩:=h1.c
   obtain⟨f0,f1,f2,f3,f4⟩:=h1.fz
   have H1:=hide h1
   clear h1 b1 HI HS HA HB
   go_wp2
   refine bodyPost_ret (results_cell_tmp rfl _ _ w.heap.size 37 #[_,_,_,_,_] (0,0) _ _ rfl rfl (putN_full (uh H1) [_,_,_,_,_] rfl) Tryz.underlying37 rfl (by kernel_rfl)) rfl ?_
   exact FRet.lit (putN_below (uh HB1) (Nat.le_refl _) [_,_,_,_,_] 0) (uh HR)
  | none=>
   rw[ht] at HS
   have e:strV none = .tuple #[.string (bsT []),.bool false]:=rfl
   rw[e] at HS
   clear e
   have HR:=hide (sOpd_else hi ht)
   clear hi ht
   have HW:=hide fun w=>wordB_walk s ⟨#[108,101,110,103,116,104,40]⟩ 0 w hs (by decide) (Nat.zero_le _)
   have HRF:=hide fun w=>ref_walk s w hs
   have HRL:=hide fun w=>ref_walk (s.extract 7 (s.size - 1)) w (by simp; omega)
   have eL:(s.extract 7 (s.size - 1)).data.toList=(s.data.toList.drop 7).take (s.data.toList.length - 8):=by
    rw[Lib.extract_data,data_len,show s.size - 1 - 7=s.size - 8 by omega]
   rw[eL] at HRL
   clear eL
   by_cases hT:s.data.toList=wdT
   ·have HR2:Hid (sOpd s.data.toList=some (opK 3)):=by show _=_; rw[uh HR,if_pos hT]
    have t1:(s.toList == [116,114,117,101])=true:=by rw[beq_iff_eq,ByteArray.toList_eq]; exact hT
    clear hT HR HW HRF HRL
    go_enter Tryz.func110,Tryz.ntmps110
    go_wp2_with fail
    refine (uh HI _).mono ?_
    rintro e w1 ⟨rfl,rfl⟩
    go_wp2_with fail
    refine (uh HS _).mono ?_
    rintro e w1 ⟨rfl,b1⟩
    have h1:=(uh HA).below b1
    have HB1:=hide (below_next (uh HB) b1)
    obtain⟨c0,c1,c2,c3,c4⟩:=h1.c
    obtain⟨f0,f1,f2,f3,f4⟩:=h1.fz
    have H1:=hide h1
    clear h1 b1 HI HS HA HB
    go_wp2
    refine bodyPost_ret (results_cell_tmp rfl _ _ w.heap.size 37 #[_,_,_,_,_] (0,0) _ _ rfl rfl (putN_full (uh H1) [_,_,_,_,_] rfl) Tryz.underlying37 rfl (by kernel_rfl)) rfl ?_
    exact FRet.lit (putN_below (uh HB1) (Nat.le_refl _) [_,_,_,_,_] 0) (uh HR2)
   ·have t1:(s.toList == [116,114,117,101])=false:=by rw[beq_eq_false_iff_ne,ByteArray.toList_eq]; exact hT
    go_enter Tryz.func110,Tryz.ntmps110
    go_wp2_with fail
    refine (uh HI _).mono ?_
    rintro e w1 ⟨rfl,rfl⟩
    go_wp2_with fail
    refine (uh HS _).mono ?_
    rintro e w1 ⟨rfl,b1⟩
    have h1:=(uh HA).below b1
    have HB1:=hide (below_next (uh HB) b1)
    have hz1:=b1.size
    obtain⟨c0,c1,c2,c3,c4⟩:=h1.c
    obtain⟨f0,f1,f2,f3,f4⟩:=h1.fz
    have H1:=hide h1
    clear h1 b1 HI HS HA HB
    have hz:w.heap.size < w1.heap.size:=by simp at hz1; omega
    clear hz1
    by_cases hF:s.data.toList=wdF
    ·have HR2:Hid (sOpd s.data.toList=some (opK 4)):=by show _=_; rw[uh HR,if_neg hT,if_pos hF]
     have t2:(s.toList == [102,97,108,115,101])=true:=by rw[beq_iff_eq,ByteArray.toList_eq]; exact hF
     clear hT HR HW HRF HRL hF
     go_wp2
     refine bodyPost_ret (results_cell_tmp rfl _ _ w.heap.size 37 #[_,_,_,_,_] (0,0) _ _ rfl rfl (putN_full (uh H1) [_,_,_,_,_] rfl) Tryz.underlying37 rfl (by kernel_rfl)) rfl ?_
     exact FRet.lit (putN_below (uh HB1) (Nat.le_refl _) [_,_,_,_,_] 0) (uh HR2)
    ·have t2:(s.toList == [102,97,108,115,101])=false:=by rw[beq_eq_false_iff_ne,ByteArray.toList_eq]; exact hF
     by_cases hN:s.data.toList=wdN
     ·have HR2:Hid (sOpd s.data.toList=some (opK 5)):=by show _=_; rw[uh HR,if_neg hT,if_neg hF,if_pos hN]
      have t3:(s.toList == [110,117,108,108])=true:=by rw[beq_iff_eq,ByteArray.toList_eq]; exact hN
      clear hT HR HW HRF HRL hF hN
      go_wp2
      refine bodyPost_ret (results_cell_tmp rfl _ _ w.heap.size 37 #[_,_,_,_,_] (0,0) _ _ rfl rfl (putN_full (uh H1) [_,_,_,_,_] rfl) Tryz.underlying37 rfl (by kernel_rfl)) rfl ?_
      exact FRet.lit (putN_below (uh HB1) (Nat.le_refl _) [_,_,_,_,_] 0) (uh HR2)
     ·have t3:(s.toList == [110,117,108,108])=false:=by rw[beq_eq_false_iff_ne,ByteArray.toList_eq]; exact hN
      have HR2:Hid (sOpd s.data.toList=(if wdL.isPrefixOf s.data.toList=true∧s.data.toList.getLast?=some 41 then (sRef ((s.data.toList.drop 7).take (s.data.toList.length - 8))).map (opR' 7) else (sRef s.data.toList).map (opR' 6))):=by show _=_; rw[uh HR,if_neg hT,if_neg hF,if_neg hN]
      clear hT HR hF hN
      go_wp2_with fail
      refine (uh HW _).mono ?_
      rintro e w2 ⟨rfl,rfl⟩
      have eW:List.isPrefixOf (ByteArray.mk #[108,101,110,103,116,104,40]).data.toList (dr s 0)=wdL.isPrefixOf s.data.toList:=rfl
      rw[eW]
      clear eW HW
      cases hw:wdL.isPrefixOf s.data.toList with
      | true=>
       have hlen:=(List.isPrefixOf_iff_prefix.1 hw).length_le
       rw[data_len] at hlen
       have h7:7≤s.size:=hlen
       have h7I:(7:Int)≤(s.size:Int):=by omega
       have hlx:=last_at (s:=s) (by omega)
       have hx:s.size - 1 < s.size:=by omega
       by_cases h41:s[s.size - 1]=41
       ·have HR3:Hid (sOpd s.data.toList=(sRef ((s.data.toList.drop 7).take (s.data.toList.length - 8))).map (opR' 7)):=by show _=_; rw[uh HR2,if_pos ⟨hw,by rw[hlx,h41]⟩]
        have b41:(((s[s.size - 1].toNat:Nat) : Int) == 41)=true:=eq_t h41
        have h8:8≤s.size:=by
         apply Classical.byContradiction
         intro h
         have h8:s.size=7:=by omega
         have hp:=List.isPrefixOf_iff_prefix.1 hw
         have:wdL=s.data.toList:=hp.eq_of_length (by rw[data_len,h8]; rfl)
         rw[← this] at hlx
         have e41:wdL.getLast?=some 40:=rfl
         rw[e41] at hlx
         injection hlx with hlx
         rw[h41] at hlx
         exact absurd hlx (by decide)
        clear hlx h41 HR2 hw hlen h7
        go_wp2_with fail
        refine (uh HRL _).mono ?_
        rintro e w3 ⟨b3,o,q,bl,rfl,row,fsh,hx⟩
        obtain⟨qa,qc,rfl,-,-⟩:=row.form
        have h3:=(uh H1).below b3
        have HB3:=hide (below_next (uh HB1) b3)
        have hz3:=b3.size
        clear b3 HRF HRL H1 HB1 c0 c1 c2 c3 c4 f0 f1 f2 f3 f4
        have hb4:=al_b w3 (.cells #[.int .i64 7,.int .i64 o.n,.string o.s,.bool o.root,.slice qa o.steps.length qc] 37)
        have h4:=h3.below hb4
        obtain⟨c0,c1,c2,c3,c4⟩:=h4.c
        obtain⟨f0,f1,f2,f3,f4⟩:=h4.fz
        have H4:=hide h4
        have HB4:=hide (below_next (uh HB3) hb4)
        have HROW:=hide (row.below hb4)
        have HFSH:=hide fsh
        have HX:=hide hx
        clear h3 h4 hb4 row fsh hx HB3
        go_wp2
        refine bodyPost_ret (results_cell_tmp rfl _ _ w.heap.size 37 #[_,_,_,_,_] (0,0) _ _ rfl rfl (putN_full (uh H4) [_,_,_,_,_] rfl) Tryz.underlying37 rfl (by kernel_rfl)) rfl ?_
        exact FRet.ref (uh HR3) (putN_below (uh HB4) (Nat.le_refl _) [_,_,_,_,_] 0) ((uh HROW).putN (fun hb=>by have:=(uh HFSH).2 _ hb; omega) [_,_,_,_,_] 0) ((uh HFSH).mono (by omega)) (uh HX)
       ·have HR3:Hid (sOpd s.data.toList=(sRef s.data.toList).map (opR' 6)):=by show _=_; rw[uh HR2,if_neg (by rintro⟨-,h⟩; rw[hlx] at h; injection h with h; exact h41 h)]
        have b41:(((s[s.size - 1].toNat:Nat) : Int) == 41)=false:=eq_f (d:=41) h41
        clear hlx h41 HR2 hw hlen h7
        go_wp2_with fail
        refine (uh HRF _).mono ?_
        rintro e w3 ⟨b3,o,q,bl,rfl,row,fsh,hx⟩
        obtain⟨qa,qc,rfl,-,-⟩:=row.form
        have h3:=(uh H1).below b3
        have HB3:=hide (below_next (uh HB1) b3)
        have hz3:=b3.size
        clear b3 HRF HRL H1 HB1 c0 c1 c2 c3 c4 f0 f1 f2 f3 f4
        have hb4:=al_b w3 (.cells #[.int .i64 6,.int .i64 o.n,.string o.s,.bool o.root,.slice qa o.steps.length qc] 37)
        have h4:=h3.below hb4
        obtain⟨c0,c1,c2,c3,c4⟩:=h4.c
        obtain⟨f0,f1,f2,f3,f4⟩:=h4.fz
        have H4:=hide h4
        have HB4:=hide (below_next (uh HB3) hb4)
        have HROW:=hide (row.below hb4)
        have HFSH:=hide fsh
        have HX:=hide hx
        clear h3 h4 hb4 row fsh hx HB3
        go_wp2
        refine bodyPost_ret (results_cell_tmp rfl _ _ w.heap.size 37 #[_,_,_,_,_] (0,0) _ _ rfl rfl (putN_full (uh H4) [_,_,_,_,_] rfl) Tryz.underlying37 rfl (by kernel_rfl)) rfl ?_
        exact FRet.ref (uh HR3) (putN_below (uh HB4) (Nat.le_refl _) [_,_,_,_,_] 0) ((uh HROW).putN (fun hb=>by have:=(uh HFSH).2 _ hb; omega) [_,_,_,_,_] 0) ((uh HFSH).mono (by omega)) (uh HX)
      | false=>
       have HR3:Hid (sOpd s.data.toList=(sRef s.data.toList).map (opR' 6)):=by show _=_; rw[uh HR2,if_neg (by rw[hw]; simp)]
       clear HR2 hw
       go_wp2_with fail
       refine (uh HRF _).mono ?_
       rintro e w3 ⟨b3,o,q,bl,rfl,row,fsh,hx⟩
       obtain⟨qa,qc,rfl,-,-⟩:=row.form
       have h3:=(uh H1).below b3
       have HB3:=hide (below_next (uh HB1) b3)
       have hz3:=b3.size
       clear b3 HRF HRL H1 HB1 c0 c1 c2 c3 c4 f0 f1 f2 f3 f4
       have hb4:=al_b w3 (.cells #[.int .i64 6,.int .i64 o.n,.string o.s,.bool o.root,.slice qa o.steps.length qc] 37)
       have h4:=h3.below hb4
       obtain⟨c0,c1,c2,c3,c4⟩:=h4.c
       obtain⟨f0,f1,f2,f3,f4⟩:=h4.fz
       have H4:=hide h4
       have HB4:=hide (below_next (uh HB3) hb4)
       have HROW:=hide (row.below hb4)
       have HFSH:=hide fsh
       have HX:=hide hx
       clear h3 h4 hb4 row fsh hx HB3
       go_wp2
       refine bodyPost_ret (results_cell_tmp rfl _ _ w.heap.size 37 #[_,_,_,_,_] (0,0) _ _ rfl rfl (putN_full (uh H4) [_,_,_,_,_] rfl) Tryz.underlying37 rfl (by kernel_rfl)) rfl ?_
       exact FRet.ref (uh HR3) (putN_below (uh HB4) (Nat.le_refl _) [_,_,_,_,_] 0) ((uh HROW).putN (fun hb=>by have:=(uh HFSH).2 _ hb; omega) [_,_,_,_,_] 0) ((uh HFSH).mono (by omega)) (uh HX)
theorem minO_or {a b:Option Nat} {c:Nat} (h:minO a b=some c) : a=some c∨b=some c:=by
 cases a with
 | none=>cases b with
  | none=>cases h
  | some y=>exact .inr h
 | some x=>cases b with
  | none=>exact .inl h
  | some y=>
   have h1:some (if y < x then y else x)=some c:=h
   injection h1 with h1
   split at h1
   ·exact .inr (by rw[h1])
   ·exact .inl (by rw[h1])
theorem cmp_60 (t:Bs) : ∃ p,pCmp (60 :: t)=some p:=by
 cases t with
 | nil=>exact⟨_,rfl⟩
 | cons d q=>
  show ∃ p,(if d=61 then some ((4:Int),q) else some (3,d :: q))=some p
  split <;> exact⟨_,rfl⟩
theorem cmp_62 (t:Bs) : ∃ p,pCmp (62 :: t)=some p:=by
 cases t with
 | nil=>exact⟨_,rfl⟩
 | cons d q=>
  show ∃ p,(if d=61 then some ((6:Int),q) else some (5,d :: q))=some p
  split <;> exact⟨_,rfl⟩
theorem fCmp_pre {l:Bs} {c:Nat} (h:fCmp l=some c) : c < l.length∧∃ p,pCmp (l.drop c)=some p:=by
 unfold fCmp at h
 have key:∀ (w:UInt8) (ws:Bs),fT w ws 0 0 l=some c→c < l.length∧∃ t,l.drop c=(w :: ws)++t:=fun w ws h=>by
  obtain⟨-,h2,h3⟩:=fT_at l 0 0 c h
  rw[Nat.sub_zero] at h2 h3
  obtain⟨t,ht⟩:=h3
  exact⟨h2,t,ht.symm⟩
 rcases minO_or h with h | h
 ·rcases minO_or h with h | h
  ·rcases minO_or h with h | h
   ·obtain⟨h1,t,ht⟩:=key _ _ h
    exact⟨h1,by rw[ht]; exact⟨_,rfl⟩⟩
   ·obtain⟨h1,t,ht⟩:=key _ _ h
    exact⟨h1,by rw[ht]; exact⟨_,rfl⟩⟩
  ·obtain⟨h1,t,ht⟩:=key _ _ h
   exact⟨h1,by rw[ht]; exact cmp_60 t⟩
 ·obtain⟨h1,t,ht⟩:=key _ _ h
  exact⟨h1,by rw[ht]; exact cmp_62 t⟩
theorem sTest_len {l:Bs} {o:List PFOp} (h:sTest l=some o) : o.length≤3∧1≤l.length:=by
 cases l with
 | nil=>rw[sTest_nil] at h; cases h
 | cons c r=>
  refine⟨?_,by simp⟩
  unfold sTest at h
  split at h
  ·cases hr:sRef (c :: r) with
   | none=>rw[hr] at h; cases h
   | some x=>rw[hr] at h; injection h with h; rw[← h]; simp
  ·split at h
   ·cases h
   ·split at h
    ·injection h with h; rw[← h]; simp
    ·cases h
def SmallC (g:Bs→Option XC) : Prop:=∀ p y,g p=some y→y.1.length≤3*p.length∧y.2≤p.length
theorem sMore_len {g:Bs→Option XC} (hg:SmallC g) (k:Int) (c:UInt8) : ∀ (ps:List Bs) (x y:XC),sMore g k x ps=some y→y.1.length≤x.1.length+3*(cat2 c ps).length∧y.2≤max x.2 (cat2 c ps).length
 | [],x,y,h=>by injection h with h; rw[← h]; exact⟨by omega,by omega⟩
 | p :: r,x,y,h=>by
  have h1:(match g p with | none=>none | some z=>sMore g k (joinX k x z) r)=some y:=h
  have e:(cat2 c (p :: r)).length=p.length+2+(cat2 c r).length:=by unfold cat2; simp; omega
  cases hp:g p with
  | none=>rw[hp] at h1; cases h1
  | some z=>
   rw[hp] at h1
   obtain⟨h2,h3⟩:=hg p z hp
   obtain⟨h4,h5⟩:=sMore_len hg k c r _ y h1
   have e1:(joinX k x z).1.length=x.1.length+z.1.length+1:=by simp[joinX]; omega
   have e2:(joinX k x z).2=max x.2 z.2:=rfl
   rw[e1] at h4
   rw[e2] at h5
   rw[e]
   omega
theorem sJoin_len {g:Bs→Option XC} (hg:SmallC g) (k:Int) (c:UInt8) : SmallC fun l=>sJoin g k (spl c [c] 0 [] l):=by
 intro l y h
 have hj:=spl_jn c [c] l 0 []
 rw[List.nil_append] at hj
 have h':sJoin g k (spl c [c] 0 [] l)=some y:=h
 generalize spl c [c] 0 [] l=ps at *
 cases ps with
 | nil=>exact absurd rfl hj.1
 | cons p r=>
  have h1:(match g p with | none=>none | some z=>sMore g k z r)=some y:=h'
  have e:l.length=p.length+(cat2 c r).length:=by rw[← hj.2,jn_cat]; simp
  cases hp:g p with
  | none=>rw[hp] at h1; cases h1
  | some z=>
   rw[hp] at h1
   obtain⟨h2,h3⟩:=hg p z hp
   obtain⟨h4,h5⟩:=sMore_len hg k c r _ y h1
   omega
theorem sCd_len {g:Bs→Option XC} (hg:SmallC g) : SmallC (sCdOf g):=sJoin_len (sJoin_len hg 10 38) 11 124
theorem sPr_len:∀ n,SmallC (sPr n)
 | 0=>fun p y h=>by cases h
 | n+1=>fun p y h=>by
  cases p with
  | nil=>rw[sPr_nil] at h; cases h
  | cons c r=>
   rw[sPr_con] at h
   rw[List.length_cons]
   split at h
   ·cases hr:sPr n r with
    | none=>rw[hr] at h; cases h
    | some z=>
     rw[hr] at h
     injection h with h
     obtain⟨h1,h2⟩:=sPr_len n r z hr
     rw[← h]
     simp only[List.length_append,List.length_singleton]
     omega
   ·split at h
    ·cases hr:sCdOf (sPr n) r.dropLast with
     | none=>rw[hr] at h; cases h
     | some z=>
      rw[hr] at h
      injection h with h
      obtain⟨h1,h2⟩:=sCd_len (sPr_len n) _ z hr
      rw[List.length_dropLast] at h1 h2
      rw[← h]
      simp only
      omega
    ·cases ht:sTest (c :: r) with
     | none=>rw[ht] at h; cases h
     | some o=>
      rw[ht] at h
      injection h with h
      obtain⟨h1,h2⟩:=sTest_len ht
      rw[← h]
      simp only
      omega
def CRet (w:World) (B:Nat) (ops:List PFOp) (bl:List Nat) (N:Nat) (R:Option XC) (e:Ending) (w':World) : Prop:=
 Below B w w'∧Shp w w'∧∃ (v':Value) (ok:Bool) (d:Int),e = .returned (.tuple #[v',.bool ok,.int .i64 d])∧(R=none→ok=false∧AnyR w' B 37 5 v' N) ∧
  ∀ x,R=some x→ok=true∧d=(x.2:Int)∧Fr bl w w'∧∃ bl',ORow fopE w' v' (ops++x.1) bl'∧Fsh B bl'∧∀ b∈bl',b∈bl∨w.heap.size≤b
theorem AnyR.form {w:World} {B:Nat} {T:TypeId} {wd:Nat} {v:Value} {N:Nat} (h:AnyR w B T wd v N) : ∃ a l c,v = .slice a l c:=by
 obtain⟨n,cs,-,-,h⟩:=h
 rcases h with ⟨hv,-⟩ | ⟨g,cap,cur,hv,-⟩
 ·exact⟨_,_,_,hv⟩
 ·exact⟨_,_,_,hv⟩
theorem AnyR.own {w:World} {B:Nat} {T:TypeId} {wd:Nat} {v:Value} {N:Nat} (h:AnyR w B T wd v N) : ∀ g,v.ownBlock=some g→B≤g:=by
 obtain⟨n,cs,-,h⟩:=h
 exact fun g hg=>(h.lt g hg).1
def PrimOk (m:Nat) (g:Bs→Option XC) : Prop:=∀ (s:ByteArray) (v:Value) (ops:List PFOp) (bl:List Nat) (B:Nat) (w:World),s.size < m→s.size≤1048576→ORow fopE w v ops bl→Fsh B bl→B≤w.heap.size→ops.length+3*s.size+3≤10000000 →
 Calls Tryz.prog 88 #[.string s,v] w (CRet w B ops bl (ops.length+3*s.size+3) (g s.data.toList))
def CondOk (m:Nat) (lv:Int) (g:Bs→Option XC) : Prop:=∀ (s:ByteArray) (v:Value) (ops:List PFOp) (bl:List Nat) (B:Nat) (w:World),s.size < m→s.size≤1048576→ORow fopE w v ops bl→Fsh B bl→B≤w.heap.size→ops.length+3*s.size+3≤10000000 →
 Calls Tryz.prog 65 #[.string s,.int .i64 lv,v] w (CRet w B ops bl (ops.length+3*s.size+3) (g s.data.toList))
theorem Appd.fr {α:Type} {e:Elem α} {B:Nat} {w w':World} {v v':Value} {xs zs:List α} {bl ib bl':List Nat} (h:Appd e B w w' v v' bl ib bl' zs) (h0:ORow e w v xs bl) : Fr bl w w':=
 ⟨h.grown.os,h.grown.tape,h.grown.output,h.grown.size,fun _ hk hn=>h.block h0 hk hn⟩
theorem fop_one (k n:Int) (t:ByteArray) (r:Bool) (a:Option Addr) (l c:Nat) : ∀ u∈[Value.int .i64 k,.int .i64 n,.string t,.bool r,.slice a l c],u.oneCell'=true:=by
 intro u hu; simp at hu; rcases hu with rfl | rfl | rfl | rfl | rfl <;> rfl
theorem fopE_lit (w:World) (k n:Int) (t:ByteArray) : fopE.E w [.int .i64 k,.int .i64 n,.string t,.bool false,.slice none 0 0] ⟨k,n,t,false,[]⟩ []:=⟨_,rfl,ORow.nil _ _⟩
end Go.Proofs.YtkjcgkfejdogbaaGreatDoor
