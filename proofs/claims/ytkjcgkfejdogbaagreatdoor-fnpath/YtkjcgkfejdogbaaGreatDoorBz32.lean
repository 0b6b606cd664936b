import Derived.Test.YtkjcgkfejdogbaaGreatDoorBz10
import Derived.Test.YtkjcgkfejdogbaaGreatDoorBz13
namespace Go.Proofs.YtkjcgkfejdogbaaGreatDoor
open Go.RowKit
def spOp (l:List PFOp) (p:Nat) (f:PFOp→PFOp) : List PFOp:=match l[p]? with
 | some x=>l.set p (f x)
 | none=>l
def spSel (k v:Nat) (o:PSel) : PSel:=
 if k % 10=1 then { o with k:=(v % 7:Nat) }
 else if k % 10=2 then { o with name:=⟨#[31]⟩ }
 else if k % 10=3 then { o with a:=1000000000 - (v % 2:Nat) }
 else if k % 10=4 then { o with c:=(v % 3:Nat) }
 else if k % 10=5 then { o with hasB:=!o.hasB }
 else if k % 10=6∧0 < o.cond.length then { o with cond:=o.cond.tail }
 else if k % 10=7∧0 < o.cond.length then { o with cond:=spOp o.cond (v % o.cond.length) fun x=>{ x with k:=(v / 8 % 14:Nat) } }
 else if k % 10=8∧0 < o.cond.length then { o with cond:=spOp o.cond (v % o.cond.length) fun x=>{ x with n:=(v / 16:Nat) } }
 else { o with cond:=o.cond++[opK 8] }
def spSegs (k i v:Nat) (segs:List PSeg) : List PSeg:=match segs[i]? with
 | some ⟨d,o :: r⟩=>if k % 10=0 then segs.set i ⟨d,[]⟩ else segs.set i ⟨d,spSel k v o :: r⟩
 | _=>segs
def dSegs (k:Nat) (q:Bs) : List PSeg:=
 let s:=gSegs q
 if k % 3=2 then spSegs (nx s.2).1 ((nx (nx s.2).2).1 % s.1.length) (nx (nx (nx s.2).2).2).1 s.1 else s.1
def chnN:Nat→List PFOp
 | 0=>[opK 8]
 | n+1=>chnN n++[opK 8,opK 11]
def dPath (q:Bs) : List PSeg:=
 if (nx q).1 % 16=15 then [⟨false,[filS (chnN (50+(nx q).1 / 16 % 3 - 1))]⟩] else dSegs ((nx q).1 / 2) (nx q).2
def effS (ks:List Int) : Int:=(ks.map fun k=>1 - (parts k:Int)).sum
theorem stepS_eff {S S':List Bool} {k:Int} (h:stepS S k=some S') : (S'.length:Int)=(S.length:Int)+(1 - (parts k:Int)):=by
 unfold stepS at h
 split at h
 ·cases h
 ·rename_i hl
  split at h
  ·injection h with h
   subst h
   rw[List.length_cons,List.length_drop]
   omega
  ·cases h
theorem runS_eff:∀ (ks:List Int) (S S':List Bool),runS ks S=some S'→(S'.length:Int)=(S.length:Int)+effS ks
 | [],S,S',h=>by injection h with h; subst h; unfold effS; simp
 | k :: r,S,S',h=>by
  rw[runS] at h
  cases hs:stepS S k with
  | none=>rw[hs] at h; cases h
  | some S1=>
   rw[hs,Option.bind_some] at h
   have h1:=stepS_eff hs
   have h2:=runS_eff r S1 S' h
   have h3:effS (k :: r)=(1 - (parts k:Int))+effS r:=rfl
   omega
theorem effS_app (a b:List Int) : effS (a++b)=effS a+effS b:=by unfold effS; rw[List.map_append,List.sum_append]
def kO (l:List PFOp) : List Int:=l.map (·.k)
theorem gOpd_k (q:Bs) : parts (gOpd q).1.k=0:=by
 unfold gOpd
 split
 ·rfl
 ·split
  ·rfl
  ·split
   ·show parts (3+(((nx q).1 / 8 % 3:Nat) : Int))=0
    unfold parts
    have:(nx q).1 / 8 % 3 < 3:=Nat.mod_lt _ (by decide)
    rw[if_neg (by omega),if_neg (by omega)]
   ·show parts (if (nx q).1 % 8=3 then 7 else 6)=0
    split <;> rfl
def OneE (l:List PFOp) : Prop:=effS (kO l)=1∧∃ x r,l=x :: r∧parts x.k=0
theorem OneE.head {l:List PFOp} (h:∃ x r,l=x :: r∧parts x.k=0) (m:List PFOp) : ∃ x r,l++m=x :: r∧parts x.k=0:=by
 obtain⟨x,r,rfl,h⟩:=h
 exact⟨x,r++m,rfl,h⟩
theorem kO_app (a b:List PFOp) : kO (a++b)=kO a++kO b:=by unfold kO; rw[List.map_append]
theorem gTest_one (k:Nat) (q:Bs) : OneE (gTest k q).1:=by
 refine⟨?_,_,_,rfl,gOpd_k q⟩
 show (1 - (parts (gOpd q).1.k:Int))+((1 - (parts (gOpd (gOpd q).2).1.k:Int))+((1 - ((2:Nat) : Int))+0))=1
 rw[gOpd_k,gOpd_k]
 rfl
theorem gCond_one:∀ (d:Nat) (q:Bs),OneE (gCond d q).1
 | 0,q=>by rw[gCond]; exact gTest_one _ _
 | d+1,q=>by
  rw[gCond]
  split
  ·exact gTest_one _ _
  ·split
   ·exact⟨rfl,_,_,rfl,rfl⟩
   ·split
    ·obtain⟨h1,h2⟩:=gCond_one d (nx q).2
     refine⟨?_,OneE.head h2 _⟩
     rw[kO_app,effS_app,h1]; rfl
    ·obtain⟨h1,h2⟩:=gCond_one d (nx q).2
     obtain⟨h3,-⟩:=gCond_one d (gCond d (nx q).2).2
     refine⟨?_,OneE.head (OneE.head h2 _) _⟩
     rw[kO_app,kO_app,effS_app,effS_app,h1,h3]
     have e:effS (kO [opK (10+(((nx q).1 % 2:Nat) : Int))]) = -1:=by
      show (1 - (parts (10+(((nx q).1 % 2:Nat) : Int)) : Int))+0 = -1
      have:(nx q).1 % 2=0∨(nx q).1 % 2=1:=by omega
      rcases this with h | h <;> rw[h] <;> rfl
     rw[e]; rfl
theorem one_tail {l:List PFOp} (h:OneE l) : condOk l.tail=false:=by
 obtain⟨h1,x,r,rfl,h2⟩:=h
 cases hc:condOk (x :: r).tail with
 | false=>rfl
 | true=>
  unfold condOk at hc
  rw[Bool.and_eq_true,beq_iff_eq] at hc
  have h3:=runS_eff _ _ _ hc.2
  have h4:effS (kO (x :: r))=(1 - (parts x.k:Int))+effS (kO r):=rfl
  have h5:(r.map (·.k))=kO r:=rfl
  rw[List.tail_cons,h5] at h3
  rw[h1,h2] at h4
  simp at h3 h4
  omega
def Tb (o:PSel) : Prop:=0 < o.cond.length→o.k=5∧condOk o.cond.tail=false
theorem gSel_tb (q:Bs) : Tb (gSel q).1:=by
 unfold gSel
 split
 ·intro h; cases h
 ·split
  ·intro h; cases h
  ·split
   ·intro h; cases h
   ·split
    ·intro h; cases h
    ·intro _; exact⟨rfl,one_tail (gCond_one 3 _)⟩
theorem gSeg_tb (q:Bs) : (∀ o∈(gSeg q).1.sels,Tb o)∧0 < (gSeg q).1.sels.length:=by
 refine⟨gMany_mem gSel_tb _ _,?_⟩
 show 0 < (gMany gSel (1+((nx q).1 / 5 % 8 - 5)) (nx q).2).1.length
 rw[gMany_len]; omega
theorem gSegs_tb (q:Bs) : ∀ s∈(gSegs q).1,(∀ o∈s.sels,Tb o)∧0 < s.sels.length:=gMany_mem (P:=fun (s:PSeg)=>(∀ o∈s.sels,Tb o)∧0 < s.sels.length) gSeg_tb _ _
theorem pathOk_bad {segs:List PSeg} {i:Nat} (hi:i < segs.length) {d:Bool} {o:PSel} {r:List PSel} (h:selOk o=false) : pathOk (segs.set i ⟨d,o :: r⟩)=false:=by
 have hs:segOk ⟨d,o :: r⟩=false:=by
  unfold segOk
  rw[List.all_cons,h,Bool.false_and,Bool.and_false]
 unfold pathOk
 have hm:(⟨d,o :: r⟩ : PSeg)∈segs.set i ⟨d,o :: r⟩:=List.mem_of_getElem? (List.getElem?_set_self hi)
 have:(segs.set i ⟨d,o :: r⟩).all segOk=false:=by
  cases hq:(segs.set i ⟨d,o :: r⟩).all segOk with
  | false=>rfl
  | true=>have:=List.all_eq_true.1 hq _ hm; rw[hs] at this; cases this
 rw[this,Bool.and_false]
theorem tb_bad {o:PSel} (h:Tb o) (h0:0 < o.cond.length) : selOk { o with cond:=o.cond.tail }=false:=by
 obtain⟨h1,h2⟩:=h h0
 unfold selOk
 have:(({ o with cond:=o.cond.tail } : PSel).k != 5 || condOk ({ o with cond:=o.cond.tail } : PSel).cond)=false:=by
  show (o.k != 5 || condOk o.cond.tail)=false
  rw[h1,h2]; rfl
 rw[this,Bool.and_false]
end Go.Proofs.YtkjcgkfejdogbaaGreatDoor
