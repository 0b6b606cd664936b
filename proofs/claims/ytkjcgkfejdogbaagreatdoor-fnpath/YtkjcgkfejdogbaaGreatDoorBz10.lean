import Derived.Deep.RegionLaw
import Derived.Test.YtkjcgkfejdogbaaGreatDoorBz7
import Derived.Test.YtkjcgkfejdogbaaGreatDoorBz4
import Derived.Test.YtkjcgkfejdogbaaGreatDoorBz9
import Derived.Test.YtkjcgkfejdogbaaGreatDoorBz2
import Derived.Test.YtkjcgkfejdogbaaGreatDoorBz3
set_option maxRecDepth 100000
set_option maxHeartbeats 8000000
namespace Go.Proofs.YtkjcgkfejdogbaaGreatDoor
open Go.RowKit
def nx:List UInt8→Nat×List UInt8
 | []=>(0,[])
 | c :: r=>(c.toNat,r)
theorem nx_le (q:List UInt8) : (nx q).1≤255:=by
 cases q with
 | nil=>exact Nat.zero_le _
 | cons c r=>have:=UInt8.toNat_lt c; show c.toNat≤255; omega
def keyT (k:Nat) : List UInt8:=if k % 12 < 4 then [UInt8.ofNat (97+k % 12)] else if k % 12=4 then [48] else if k % 12=5 then [49,50] else if k % 12=6 then [97,47,98]
 else if k % 12=7 then [126,116] else if k % 12=8 then [195,169] else if k % 12=9 then [] else if k % 12=10 then [45] else [120,39,92]
theorem keyT_len (k:Nat) : (keyT k).length≤3:=by
 unfold keyT
 repeat' split
 all_goals simp
def RdAt (w:World) (B rb:Nat) (q:List UInt8) : Prop:=∃ (a:Option Addr) (c p:Nat) (l:List UInt8) (bb bo:Nat),w.heap[rb]?=some (.cells #[.slice a l.length c,.int .i64 p] 73 (0,0))∧B≤rb∧p≤l.length∧l.length≤1200∧BS w a bb bo l∧(0 < l.length→bb < B)∧q=l.drop p
theorem RdAt.is {w:World} {B rb:Nat} {q:List UInt8} (h:RdAt w B rb q) : RdIs w B rb:=by
 obtain⟨a,c,p,l,bb,bo,hh,h1,h2,h3,h4,h5,_⟩:=h
 exact⟨a,c,p,l,bb,bo,hh,h1,by omega,h3,h4,h5⟩
theorem RdAt.lt {w:World} {B rb:Nat} {q:List UInt8} (h:RdAt w B rb q) : rb < w.heap.size:=h.is.lt
theorem RdAt.ge {w:World} {B rb:Nat} {q:List UInt8} (h:RdAt w B rb q) : B≤rb:=by obtain⟨_,_,_,_,_,_,_,h1,_⟩:=h; exact h1
theorem RdAt.len {w:World} {B rb:Nat} {q:List UInt8} (h:RdAt w B rb q) : q.length≤1200:=by
 obtain⟨a,c,p,l,bb,bo,_,_,_,h3,_,_,rfl⟩:=h
 rw[List.length_drop]; omega
theorem RdAt.grown {w w':World} {B rb:Nat} {q:List UInt8} {r:Option Nat} (h:RdAt w B rb q) (hg:w.grownBy w' r) (hne:some rb≠r) (hB:∀ k,r=some k→B≤k) : RdAt w' B rb q:=by
 have hlt:=h.lt
 obtain⟨a,c,p,l,bb,bo,hh,h1,h2,h3,h4,h5,h6⟩:=h
 exact⟨a,c,p,l,bb,bo,(hg.block rb hlt hne).trans hh,h1,h2,h3,h4.grown hg (fun h0 e=>by have:=hB bb e.symm; have:=h5 h0; omega),h5,h6⟩
structure DX (B rb:Nat) (w:World) (q:List UInt8) (w':World) : Prop where
 rd:RdAt w' B rb q
 gr:w.grownBy w' (some rb)
theorem DX.below {B rb:Nat} {w w1 w2:World} {q:List UInt8} (h:DX B rb w q w1) (hb:Below w1.heap.size w1 w2) : DX B rb w q w2:=
 ⟨h.rd.grown (grownBy_below (r:=none) hb) (by simp) (fun _ e=>by cases e),grownBy_trans h.gr (grownBy_below hb)⟩
theorem DX.step {B rb:Nat} {w w1 w2:World} {q r:List UInt8} (h:DX B rb w q w1) (k:DX B rb w1 r w2) : DX B rb w r w2:=⟨k.rd,grownBy_trans h.gr k.gr⟩
theorem DX.refl {B rb:Nat} {w:World} {q:List UInt8} (h:RdAt w B rb q) : DX B rb w q w:=⟨h,World.grownBy.refl _ _⟩
theorem DX.size {B rb:Nat} {w w1:World} {q:List UInt8} (h:DX B rb w q w1) : w.heap.size≤w1.heap.size:=h.gr.size
def DT (B rb:Nat) (w:World) (t q:List UInt8) (e:Ending) (w':World) : Prop:=e = .returned (.string (strOf t))∧DX B rb w q w'
theorem nextX_walk (B rb:Nat) (q:List UInt8) (w:World) (h:RdAt w B rb q) :
  Calls Tryz.prog 13 #[.pointer (some ⟨rb,0,none⟩)] w fun e w'=>e = .returned (.int .i64 ((nx q).1:Int))∧DX B rb w (nx q).2 w':=by
 obtain⟨a,c,p,l,bb,bo,hh,hB,hp,hl,hbs,hbb,hq⟩:=h
 have c0:w.cell? ⟨rb,0,none⟩=some (.slice a l.length c):=by rw[Lib.cell_of_heap hh]; rfl
 have c1:w.cell? ⟨rb,1,none⟩=some (.int .i64 p):=by rw[Lib.cell_of_heap hh]; rfl
 have f1:w.frozen? ⟨rb,1,none⟩=false:=Lib.frozen_of_heap hh 1
 have HH:=hide hh
 have HBS:=hide hbs
 clear hh hbs
 by_cases hlt:p < l.length
 ·have ca:=(uh HBS).cell p hlt
  obtain rfl:=(uh HBS).ad (by omega)
  have hx:(l.getD p 0).toNat≤255:=by have:=UInt8.toNat_lt (l.getD p 0); omega
  have HQ:Hid (nx q=((l.getD p 0).toNat,l.drop (p+1))):=by
   show nx q=_
   rw[hq,List.drop_eq_getElem_cons hlt]
   simp[nx,List.getD,hlt]
  rw[uh HQ]
  clear hq HQ
  generalize (l.getD p 0).toNat=x at *
  have hltI:(p:Int) < (l.length:Int):=by omega
  go_enter Tryz.func13,Tryz.ntmps13
  go_wp2
  go_quiet (fail)
  go_wp2
  go_quiet (fail)
  go_wp2
  go_ret
  refine⟨rfl,⟨_,c,p+1,l,bb,bo,?_,hB,by omega,hl,(uh HBS).grown (grown_setD w _ rb 1 _) (fun h0 e=>by have:=hbb h0; injection e with e; omega),hbb,rfl⟩,grown_setD w _ rb 1 _⟩
  exact heap_set _ rb _ _ _ _ (uh HH)
 ·have hltI:¬ (p:Int) < (l.length:Int):=by omega
  have hqn:q=[]:=by rw[hq,List.drop_eq_nil_iff]; omega
  subst hqn
  have HQ:=hide hq
  clear hq
  go_enter Tryz.func13,Tryz.ntmps13
  go_wp2
  go_quiet (fail)
  go_wp2
  go_ret
  exact⟨rfl,⟨a,c,p,l,bb,bo,uh HH,hB,hp,hl,(uh HBS).grown (grown_draws w _ none) (fun _ e=>by cases e),hbb,uh HQ⟩,grown_draws w _ _⟩
theorem openX_walk (xa:Option Addr) (xb xo xc:Nat) (l:List UInt8) (w:World) (h:BS w xa xb xo l) (hl:l.length≤1048576) (hc:l.length≤xc) :
  Calls Tryz.prog 12 #[.slice xa l.length xc] w fun e w'=>e = .returned (.pointer (some ⟨w.heap.size,0,none⟩))∧RdAt w' w.heap.size w.heap.size (l.take 1200)∧Below w.heap.size w w'∧w'.heap.size=w.heap.size+1:=by
 have hbb:0 < l.length→xb < w.heap.size:=fun h0=>World.block_lt_of_cell? _ _ (h.cell 0 h0)
 have HB:=hide h
 have HBB:=hide hbb
 clear h hbb
 by_cases hgt:1200 < l.length
 ·have hgtI:(1200:Int) < (l.length:Int):=by omega
  go_enter Tryz.func12,Tryz.ntmps12
  go_wp2
  go_ret
  refine⟨rfl,⟨_,xc,0,l.take 1200,xb,xo,?_,Nat.le_refl _,Nat.zero_le _,by rw[List.length_take]; omega,((uh HB).take 1200).grown (World.grownBy_alloc w _ none) (fun _ e=>by cases e),fun _=>uh HBB (by omega),by rw[List.drop_zero]⟩,(Below.refl _ _).alloc (Nat.le_refl _) _,by simp⟩
  rw[heap_alloc_new]; rw[List.length_take,Nat.min_eq_left (by omega)]; rfl
 ·have hgtI:¬ (1200:Int) < (l.length:Int):=by omega
  have HT:Hid (l.take 1200=l):=List.take_of_length_le (by omega)
  go_enter Tryz.func12,Tryz.ntmps12
  go_wp2
  go_ret
  refine⟨rfl,⟨_,xc,0,l,xb,xo,?_,Nat.le_refl _,Nat.zero_le _,by omega,(uh HB).grown (World.grownBy_alloc w _ none) (fun _ e=>by cases e),uh HBB,by rw[List.drop_zero]; exact uh HT⟩,(Below.refl _ _).alloc (Nat.le_refl _) _,by simp⟩
  rw[heap_alloc_new]; rfl
theorem keyX_walk (k:Nat) (w:World) (hk:k≤255) :
  Calls Tryz.prog 93 #[.int .i64 k] w fun e w'=>e = .returned (.string (strOf (keyT k)))∧w=w':=by
 have h12:k % 12 < 12:=Nat.mod_lt _ (by decide)
 have e:(k:Int) % 12=((k % 12:Nat) : Int):=by omega
 have HT:Hid (keyT k=keyT (k % 12)):=by show _=_; unfold keyT; rw[Nat.mod_mod]
 rw[uh HT]
 generalize k % 12=m at *
 clear HT
 rcases (show m=0∨m=1∨m=2∨m=3∨m=4∨m=5∨m=6∨m=7∨m=8∨m=9∨m=10∨m=11 from by omega) with rfl | rfl | rfl | rfl | rfl | rfl | rfl | rfl | rfl | rfl | rfl | rfl
 all_goals
  go_enter Tryz.func93,Tryz.ntmps93
  go_wp2
  go_ret
  exact⟨rfl,rfl⟩
def txT (k:Nat) : Bs:=if k % 9=8 then [255,39] else keyT k
theorem txT_len (k:Nat) : (txT k).length≤3:=by
 unfold txT
 split
 ·simp
 ·exact keyT_len k
def gInt (q:Bs) : Int×Bs:=(if (nx q).1=255 then 999999999 else if (nx q).1=254 then -999999999 else (((nx q).1 % 9:Nat) : Int) - 4,(nx q).2)
def gMany {α:Type} (f:Bs→α×Bs) : Nat→Bs→List α×Bs
 | 0,q=>([],q)
 | n+1,q=>((f q).1 :: (gMany f n (f q).2).1,(gMany f n (f q).2).2)
theorem gMany_len {α:Type} (f:Bs→α×Bs) : ∀ (n:Nat) (q:Bs),(gMany f n q).1.length=n
 | 0,_=>rfl
 | n+1,q=>by rw[gMany,List.length_cons,gMany_len f n]
theorem gMany_snoc {α:Type} (f:Bs→α×Bs) : ∀ (n:Nat) (q:Bs),gMany f (n+1) q=((gMany f n q).1++[(f (gMany f n q).2).1],(f (gMany f n q).2).2)
 | 0,q=>rfl
 | n+1,q=>by
  rw[gMany,gMany_snoc f n (f q).2]
  rfl
theorem gMany_mem {α:Type} {f:Bs→α×Bs} {P:α→Prop} (hf:∀ q,P (f q).1) : ∀ (n:Nat) (q:Bs),∀ x∈(gMany f n q).1,P x
 | 0,_,x,h=>by cases h
 | n+1,q,x,h=>by
  rcases List.mem_cons.1 h with rfl | h
  ·exact hf q
  ·exact gMany_mem hf n _ x h
def gStep (q:Bs) : PStep×Bs:=(if (nx q).1 % 4=3 then ⟨true,⟨#[]⟩,(((nx q).1 / 4 % 4:Nat) : Int) - 1⟩ else ⟨false,bsT (txT ((nx q).1 / 4)),0⟩,(nx q).2)
def gRef (q:Bs) : PFOp×Bs:=(⟨8,0,⟨#[]⟩,decide ((nx q).1 % 5=4),(gMany gStep ((nx q).1 / 5 % 3) (nx q).2).1⟩,(gMany gStep ((nx q).1 / 5 % 3) (nx q).2).2)
def gOpd (q:Bs) : PFOp×Bs:=
 if (nx q).1 % 8=0 then (opI (gInt (nx q).2).1,(gInt (nx q).2).2)
 else if (nx q).1 % 8=1 then (opS (txT ((nx q).1 / 8)),(nx q).2)
 else if (nx q).1 % 8=2 then (opK (3+((nx q).1 / 8 % 3:Nat)),(nx q).2)
 else ({ (gRef (nx q).2).1 with k:=if (nx q).1 % 8=3 then 7 else 6 },(gRef (nx q).2).2)
def gTest (k:Nat) (q:Bs) : List PFOp×Bs:=([(gOpd q).1,(gOpd (gOpd q).2).1,⟨9,1+(k / 8 % 6:Nat),⟨#[]⟩,false,[]⟩],(gOpd (gOpd q).2).2)
def gCond:Nat→Bs→List PFOp×Bs
 | 0,q=>gTest (nx q).1 (nx q).2
 | d+1,q=>
  if (nx q).1 % 8 < 4 then gTest (nx q).1 (nx q).2
  else if (nx q).1 % 8=4 then ([(gRef (nx q).2).1],(gRef (nx q).2).2)
  else if (nx q).1 % 8=5 then ((gCond d (nx q).2).1++[opK 12],(gCond d (nx q).2).2)
  else ((gCond d (nx q).2).1++(gCond d (gCond d (nx q).2).2).1++[opK (10+((nx q).1 % 2:Nat))],(gCond d (gCond d (nx q).2).2).2)
def gOpt (h:Bool) (q:Bs) : Int×Bs:=if h=true then gInt q else (0,q)
def gSel (q:Bs) : PSel×Bs:=
 if (nx q).1 % 8 < 2 then (nameS (txT ((nx q).1 / 8)),(nx q).2)
 else if (nx q).1 % 8=2∨(nx q).1 % 8=3 then (allS,(nx q).2)
 else if (nx q).1 % 8=4 then (idxS (gInt (nx q).2).1,(gInt (nx q).2).2)
 else if (nx q).1 % 8=5 then
  let hA:=decide ((nx q).1 / 8 % 2=1); let hB:=decide ((nx q).1 / 16 % 2=1); let hC:=decide ((nx q).1 / 32 % 2=1)
  let a:=gOpt hA (nx q).2; let b:=gOpt hB a.2; let c:=gOpt hC b.2
  (slcS (hA,a.1) (hB,b.1) (hC,c.1),c.2)
 else (filS (gCond 3 (nx q).2).1,(gCond 3 (nx q).2).2)
def gSeg (q:Bs) : PSeg×Bs:=(⟨decide ((nx q).1 % 5=4),(gMany gSel (1+((nx q).1 / 5 % 8 - 5)) (nx q).2).1⟩,(gMany gSel (1+((nx q).1 / 5 % 8 - 5)) (nx q).2).2)
def gSegs (q:Bs) : List PSeg×Bs:=gMany gSeg (1+(nx q).1 % 4) (nx q).2
theorem sum_le {α:Type} (f:α→Nat) (b:Nat) : ∀ (l:List α),(∀ x∈l,f x≤b)→(l.map f).sum≤b*l.length
 | [],_=>Nat.zero_le _
 | x :: r,h=>by
  have h1:=h x (List.mem_cons_self ..)
  have h2:=sum_le f b r fun y hy=>h y (List.mem_cons_of_mem _ hy)
  rw[List.map_cons,List.sum_cons,List.length_cons,Nat.mul_succ]
  omega
theorem bsT_size (l:Bs) : (bsT l).size=l.length:=by unfold bsT; simp[ByteArray.size]
theorem gStep_sz (q:Bs) : szStep (gStep q).1≤3:=by
 unfold gStep szStep
 dsimp only
 split
 ·exact Nat.zero_le _
 ·show (bsT _).size≤3
  rw[bsT_size]; exact txT_len _
theorem gRef_sz (q:Bs) : szFop (gRef q).1≤8:=by
 have h1:=gMany_len gStep ((nx q).1 / 5 % 3) (nx q).2
 have h2:=sum_le szStep 3 _ (gMany_mem (P:=fun x=>szStep x≤3) gStep_sz ((nx q).1 / 5 % 3) (nx q).2)
 have h3:(nx q).1 / 5 % 3≤2:=by omega
 have h4:szFop (gRef q).1=0+szSteps (gMany gStep ((nx q).1 / 5 % 3) (nx q).2).1:=rfl
 unfold szSteps at h4
 rw[h1] at h2 h4
 omega
theorem gOpd_sz (q:Bs) : szFop (gOpd q).1≤8:=by
 unfold gOpd
 split
 ·exact Nat.zero_le _
 ·split
  ·show (bsT _).size+0≤8
   rw[bsT_size]; have:=txT_len ((nx q).1 / 8); omega
  ·split
   ·exact Nat.zero_le _
   ·exact gRef_sz _
theorem szFops_app (a b:List PFOp) : szFops (a++b)=szFops a+szFops b:=by
 unfold szFops; rw[List.length_append,List.map_append,List.sum_append]; omega
theorem gTest_sz (k:Nat) (q:Bs) : szFops (gTest k q).1≤19:=by
 have h1:=gOpd_sz q
 have h2:=gOpd_sz (gOpd q).2
 show 3+(szFop (gOpd q).1+(szFop (gOpd (gOpd q).2).1+(0+0)))≤19
 omega
theorem gCond_sz:∀ (d:Nat) (q:Bs),szFops (gCond d q).1+1≤20*2 ^ d
 | 0,q=>by rw[gCond]; have:=gTest_sz (nx q).1 (nx q).2; omega
 | d+1,q=>by
  rw[gCond]
  have hp:2 ^ (d+1)=2 ^ d*2:=Nat.pow_succ ..
  have h1:1≤2 ^ d:=Nat.one_le_two_pow
  have hk:∀ k,szFops [opK k]=1:=fun _=>rfl
  split
  ·have:=gTest_sz (nx q).1 (nx q).2; omega
  ·split
   ·have h2:=gRef_sz (nx q).2
    have:szFops [(gRef (nx q).2).1]=1+(szFop (gRef (nx q).2).1+0):=rfl
    dsimp only
    omega
   ·split
    ·have h2:=gCond_sz d (nx q).2
     dsimp only
     rw[szFops_app,hk]
     omega
    ·have h2:=gCond_sz d (nx q).2
     have h3:=gCond_sz d (gCond d (nx q).2).2
     dsimp only
     rw[szFops_app,szFops_app,hk]
     omega
theorem gSel_sz (q:Bs) : szSel (gSel q).1≤160:=by
 unfold gSel
 split
 ·show (bsT _).size+0≤160
  rw[bsT_size]; have:=txT_len ((nx q).1 / 8); omega
 ·split
  ·exact Nat.zero_le _
  ·split
   ·exact Nat.zero_le _
   ·split
    ·exact Nat.zero_le _
    ·have:=gCond_sz 3 (nx q).2
     show 0+szFops (gCond 3 (nx q).2).1≤160
     omega
theorem gSeg_sz (q:Bs) : szSeg (gSeg q).1≤500:=by
 have h1:=gMany_len gSel (1+((nx q).1 / 5 % 8 - 5)) (nx q).2
 have h2:=sum_le szSel 160 _ (gMany_mem (P:=fun x=>szSel x≤160) gSel_sz (1+((nx q).1 / 5 % 8 - 5)) (nx q).2)
 have h3:1+((nx q).1 / 5 % 8 - 5)≤3:=by omega
 have h4:szSeg (gSeg q).1=szSels (gMany gSel (1+((nx q).1 / 5 % 8 - 5)) (nx q).2).1:=rfl
 unfold szSels at h4
 rw[h1] at h2 h4
 omega
theorem gSegs_sz (q:Bs) : szSegs (gSegs q).1≤2004:=by
 have h1:=gMany_len gSeg (1+(nx q).1 % 4) (nx q).2
 have h2:=sum_le szSeg 500 _ (gMany_mem (P:=fun x=>szSeg x≤500) gSeg_sz (1+(nx q).1 % 4) (nx q).2)
 have h4:szSegs (gSegs q).1=(gMany gSeg (1+(nx q).1 % 4) (nx q).2).1.length+((gMany gSeg (1+(nx q).1 % 4) (nx q).2).1.map szSeg).sum:=rfl
 rw[h1] at h2 h4
 omega
end Go.Proofs.YtkjcgkfejdogbaaGreatDoor
