import Derived.Test.YtkjcgkfejdogbaaGreatDoorBz1
namespace Go.Proofs.YtkjcgkfejdogbaaGreatDoor
open Go.RowKit
def brkO (o:Int) (c:UInt8) : Int:=if c=40∨c=91 then o+1 else if c=41∨c=93 then o - 1 else o
theorem sE_len {r t:Bs} (h:sE r=some t) : t.length < r.length:=by
 obtain⟨p,rfl⟩:=sE_last h
 rw[List.length_append,List.length_cons]; omega
theorem sE_take {r t:Bs} (h:sE r=some t) : r=r.take (r.length - t.length)++t:=by
 obtain⟨p,rfl⟩:=sE_last h
 have e:(p++39 :: t).length - t.length=p.length+1:=by rw[List.length_append,List.length_cons]; omega
 rw[e,List.take_append]
 simp[List.take_of_length_le]
theorem sE_drop {r t:Bs} (h:sE r=some t) : r.drop (r.length - t.length)=t:=by
 obtain⟨p,rfl⟩:=sE_last h
 have e:(p++39 :: t).length - t.length=p.length+1:=by rw[List.length_append,List.length_cons]; omega
 rw[e]
 simp
def spl (w:UInt8) (ws:Bs) (o:Int) (cur:Bs) (l:Bs) : List Bs:=match l with
 | []=>[cur]
 | c :: r=>if o=0∧(w :: ws).isPrefixOf (c :: r)=true then cur :: spl w ws 0 [] (r.drop ws.length)
  else if c=39 then (match _h:sE r with
   | none=>[cur++c :: r]
   | some t=>spl w ws o (cur++39 :: r.take (r.length - t.length)) t)
  else spl w ws (brkO o c) (cur++[c]) r
termination_by l.length
decreasing_by
 ·simp only[List.length_cons,List.length_drop]; omega
 ·have:=sE_len _h; simp only[List.length_cons]; omega
 ·simp only[List.length_cons]; omega
def fT (w:UInt8) (ws:Bs) (o:Int) (i:Nat) (l:Bs) : Option Nat:=match l with
 | []=>none
 | c :: r=>if o=0∧(w :: ws).isPrefixOf (c :: r)=true then some i
  else if c=39 then (match h:sE r with
   | none=>none
   | some t=>fT w ws o (i+(r.length+1 - t.length)) t)
  else fT w ws (brkO o c) (i+1) r
termination_by l.length
decreasing_by
 ·have:=sE_len h; simp only[List.length_cons]; omega
 ·simp only[List.length_cons]; omega
def clo (o:Int) (i:Nat) (l:Bs) : Option Nat:=match l with
 | []=>none
 | c :: r=>if c=39 then (match h:sE r with
   | none=>none
   | some t=>clo o (i+(r.length+1 - t.length)) t)
  else if brkO o c=0 then some (i+1) else clo (brkO o c) (i+1) r
termination_by l.length
decreasing_by
 ·have:=sE_len h; simp only[List.length_cons]; omega
 ·simp only[List.length_cons]; omega
theorem spl_nil (w:UInt8) (ws:Bs) (o:Int) (cur:Bs) : spl w ws o cur []=[cur]:=by rw[spl]
theorem spl_hit {w:UInt8} {ws:Bs} (cur r:Bs) : spl w ws 0 cur (w :: (ws++r))=cur :: spl w ws 0 [] r:=by
 rw[spl,if_pos ⟨rfl,by simp[List.isPrefixOf_iff_prefix,List.prefix_append]⟩]
 simp
theorem spl_str {w:UInt8} {ws:Bs} {o:Int} {cur q t:Bs} (hw:w≠39) (hq:sE q=some []) : spl w ws o cur (39 :: (q++t))=spl w ws o (cur++39 :: q) t:=by
 have h:=sE_ext (t:=t) hq
 rw[List.nil_append] at h
 rw[spl,if_neg (by rintro⟨_,h2⟩; simp at h2; exact hw h2.1),if_pos rfl]
 split
 ·rename_i h1; rw[h] at h1; cases h1
 ·rename_i t' h1
  rw[h] at h1
  injection h1 with h1
  subst h1
  congr 3
  have e:(q++t).length - t.length=q.length:=by rw[List.length_append]; omega
  rw[e,List.take_left]
theorem spl_chr {w:UInt8} {ws:Bs} {o:Int} {cur r:Bs} {c:UInt8} (h:o≠0∨w≠c) (hc:c≠39) : spl w ws o cur (c :: r)=spl w ws (brkO o c) (cur++[c]) r:=by
 rw[spl,if_neg,if_neg hc]
 rintro⟨h1,h2⟩
 rcases h with h | h
 ·exact h h1
 ·simp at h2; exact h h2.1
theorem fT_str {w:UInt8} {ws:Bs} {o:Int} {i:Nat} {q t:Bs} (hw:w≠39) (hq:sE q=some []) : fT w ws o i (39 :: (q++t))=fT w ws o (i+(q.length+1)) t:=by
 have h:=sE_ext (t:=t) hq
 rw[List.nil_append] at h
 rw[fT,if_neg (by rintro⟨_,h2⟩; simp at h2; exact hw h2.1),if_pos rfl]
 split
 ·rename_i h1; rw[h] at h1; cases h1
 ·rename_i t' h1
  rw[h] at h1
  injection h1 with h1
  subst h1
  congr 1
  rw[List.length_append]; omega
theorem fT_chr {w:UInt8} {ws:Bs} {o:Int} {i:Nat} {r:Bs} {c:UInt8} (h:o≠0∨w≠c) (hc:c≠39) : fT w ws o i (c :: r)=fT w ws (brkO o c) (i+1) r:=by
 rw[fT,if_neg,if_neg hc]
 rintro⟨h1,h2⟩
 rcases h with h | h
 ·exact h h1
 ·simp at h2; exact h h2.1
theorem clo_str {o:Int} {i:Nat} {q t:Bs} (hq:sE q=some []) : clo o i (39 :: (q++t))=clo o (i+(q.length+1)) t:=by
 have h:=sE_ext (t:=t) hq
 rw[List.nil_append] at h
 rw[clo,if_pos rfl]
 split
 ·rename_i h1; rw[h] at h1; cases h1
 ·rename_i t' h1
  rw[h] at h1
  injection h1 with h1
  subst h1
  congr 1
  rw[List.length_append]; omega
theorem isBr_no {c:UInt8} (h:isBr c=false) : c≠39∧c≠40∧c≠41∧c≠91∧c≠93:=by
 unfold isBr at h
 simp only[Bool.or_eq_false_iff,beq_eq_false_iff_ne] at h
 obtain⟨⟨⟨⟨h1,h2⟩,h3⟩,h4⟩,h5⟩:=h
 exact⟨h1,h2,h3,h4,h5⟩
theorem brkO_no {c:UInt8} (h:isBr c=false) (o:Int) : brkO o c=o:=by
 obtain⟨_,h2,h3,h4,h5⟩:=isBr_no h
 unfold brkO
 rw[if_neg (by simp[h2,h4]),if_neg (by simp[h3,h5])]
theorem spl_cl {w:UInt8} {ws:Bs} (hw:isBr w=false) {P:UInt8→Bool} {x:Bs} (h:Cl P x) : ∀ (o:Int) (cur t:Bs),0≤o→(o=0→P w=false)→spl w ws o cur (x++t)=spl w ws o (cur++x) t:=by
 obtain⟨w1,w2,w3,w4,w5⟩:=isBr_no hw
 induction h with
 | nil=>intro o cur t _ _; simp
 | @chr P c r h1 h2 _ ih=>
  intro o cur t ho hP
  rw[List.cons_append,spl_chr,brkO_no h1,ih o _ t ho hP]
  ·simp
  ·by_cases e:o=0
   ·right; intro e2; rw[← e2] at h2; rw[hP e] at h2; cases h2
   ·exact .inl e
  ·exact (isBr_no h1).1
 | @quo P q r h1 _ ih=>
  intro o cur t ho hP
  rw[List.cons_append,List.append_assoc,spl_str w1 h1,ih o _ t ho hP]
  simp
 | @par P Q x r h1 _ ih1 ih2=>
  intro o cur t ho hP
  rw[List.cons_append,List.append_assoc,spl_chr (.inr w2) (by decide)]
  have e1:brkO o 40=o+1:=rfl
  rw[e1,ih1 (o+1) _ _ (by omega) (by intro e; omega),List.cons_append,spl_chr (.inl (by omega)) (by decide)]
  have e2:brkO (o+1) 41=o:=by show (if _ then _ else if _ then _ else _)=_; rw[if_neg (by decide),if_pos (by decide)]; omega
  rw[e2,ih2 o _ t ho hP]
  simp
 | @brk P Q x r h1 _ ih1 ih2=>
  intro o cur t ho hP
  rw[List.cons_append,List.append_assoc,spl_chr (.inr w4) (by decide)]
  have e1:brkO o 91=o+1:=rfl
  rw[e1,ih1 (o+1) _ _ (by omega) (by intro e; omega),List.cons_append,spl_chr (.inl (by omega)) (by decide)]
  have e2:brkO (o+1) 93=o:=by show (if _ then _ else if _ then _ else _)=_; rw[if_neg (by decide),if_pos (by decide)]; omega
  rw[e2,ih2 o _ t ho hP]
  simp
theorem fT_cl {w:UInt8} {ws:Bs} (hw:isBr w=false) {P:UInt8→Bool} {x:Bs} (h:Cl P x) : ∀ (o:Int) (i:Nat) (t:Bs),0≤o→(o=0→P w=false)→fT w ws o i (x++t)=fT w ws o (i+x.length) t:=by
 obtain⟨w1,w2,w3,w4,w5⟩:=isBr_no hw
 induction h with
 | nil=>intro o i t _ _; simp
 | @chr P c r h1 h2 _ ih=>
  intro o i t ho hP
  rw[List.cons_append,fT_chr,brkO_no h1,ih o _ t ho hP]
  ·rw[List.length_cons,Nat.add_assoc,Nat.add_comm 1]
  ·by_cases e:o=0
   ·right; intro e2; rw[← e2] at h2; rw[hP e] at h2; cases h2
   ·exact .inl e
  ·exact (isBr_no h1).1
 | @quo P q r h1 _ ih=>
  intro o i t ho hP
  rw[List.cons_append,List.append_assoc,fT_str w1 h1,ih o _ t ho hP]
  rw[List.length_cons,List.length_append]; congr 1; omega
 | @par P Q x r h1 _ ih1 ih2=>
  intro o i t ho hP
  rw[List.cons_append,List.append_assoc,fT_chr (.inr w2) (by decide)]
  have e1:brkO o 40=o+1:=rfl
  rw[e1,ih1 (o+1) _ _ (by omega) (by intro e; omega),List.cons_append,fT_chr (.inl (by omega)) (by decide)]
  have e2:brkO (o+1) 41=o:=by show (if _ then _ else if _ then _ else _)=_; rw[if_neg (by decide),if_pos (by decide)]; omega
  rw[e2,ih2 o _ t ho hP]
  simp only[List.length_cons,List.length_append]; congr 1; omega
 | @brk P Q x r h1 _ ih1 ih2=>
  intro o i t ho hP
  rw[List.cons_append,List.append_assoc,fT_chr (.inr w4) (by decide)]
  have e1:brkO o 91=o+1:=rfl
  rw[e1,ih1 (o+1) _ _ (by omega) (by intro e; omega),List.cons_append,fT_chr (.inl (by omega)) (by decide)]
  have e2:brkO (o+1) 93=o:=by show (if _ then _ else if _ then _ else _)=_; rw[if_neg (by decide),if_pos (by decide)]; omega
  rw[e2,ih2 o _ t ho hP]
  simp only[List.length_cons,List.length_append]; congr 1; omega
theorem clo_chr {o:Int} {i:Nat} {r:Bs} {c:UInt8} (hc:c≠39) (h:brkO o c≠0) : clo o i (c :: r)=clo (brkO o c) (i+1) r:=by rw[clo,if_neg hc,if_neg h]
theorem clo_cl {P:UInt8→Bool} {x:Bs} (h:Cl P x) : ∀ (o:Int) (i:Nat) (t:Bs),1≤o→clo o i (x++t)=clo o (i+x.length) t:=by
 induction h with
 | nil=>intro o i t _; simp
 | @chr P c r h1 h2 _ ih=>
  intro o i t ho
  have e:=brkO_no h1 o
  rw[List.cons_append,clo_chr (isBr_no h1).1 (by omega),e,ih o _ t ho]
  rw[List.length_cons,Nat.add_assoc,Nat.add_comm 1]
 | @quo P q r h1 _ ih=>
  intro o i t ho
  rw[List.cons_append,List.append_assoc,clo_str h1,ih o _ t ho]
  rw[List.length_cons,List.length_append]; congr 1; omega
 | @par P Q x r h1 _ ih1 ih2=>
  intro o i t ho
  have e1:brkO o 40=o+1:=rfl
  have e2:brkO (o+1) 41=o:=by show (if _ then _ else if _ then _ else _)=_; rw[if_neg (by decide),if_pos (by decide)]; omega
  rw[List.cons_append,List.append_assoc,clo_chr (by decide) (by omega),e1,ih1 (o+1) _ _ (by omega),List.cons_append,clo_chr (by decide) (by omega),e2,ih2 o _ t ho]
  simp only[List.length_cons,List.length_append]; congr 1; omega
 | @brk P Q x r h1 _ ih1 ih2=>
  intro o i t ho
  have e1:brkO o 91=o+1:=rfl
  have e2:brkO (o+1) 93=o:=by show (if _ then _ else if _ then _ else _)=_; rw[if_neg (by decide),if_pos (by decide)]; omega
  rw[List.cons_append,List.append_assoc,clo_chr (by decide) (by omega),e1,ih1 (o+1) _ _ (by omega),List.cons_append,clo_chr (by decide) (by omega),e2,ih2 o _ t ho]
  simp only[List.length_cons,List.length_append]; congr 1; omega
theorem clo_at {P:UInt8→Bool} {x:Bs} (h:Cl P x) {a b:UInt8} (ha:a=40∨a=91) (hb:b=41∨b=93) (t:Bs) : clo 0 0 (a :: (x++b :: t))=some (x.length+2):=by
 have e1:brkO 0 a=1:=by rcases ha with rfl | rfl <;> rfl
 have e2:brkO 1 b=0:=by rcases hb with rfl | rfl <;> rfl
 rw[clo_chr (by rcases ha with rfl | rfl <;> decide) (by omega),e1,clo_cl h 1 _ _ (by omega),clo,if_neg (by rcases hb with rfl | rfl <;> decide),if_pos e2]
 congr 1; omega
def jn (sep:Bs) : List Bs→Bs
 | []=>[]
 | [p]=>p
 | p :: q :: r=>p++(sep++jn sep (q :: r))
theorem jn_cons {sep p:Bs} {ps:List Bs} (h:ps≠[]) : jn sep (p :: ps)=p++(sep++jn sep ps):=by
 cases ps with
 | nil=>exact absurd rfl h
 | cons q r=>rw[jn]
theorem spl_jn (w:UInt8) (ws:Bs) : ∀ (l:Bs) (o:Int) (cur:Bs),spl w ws o cur l≠[]∧jn (w :: ws) (spl w ws o cur l)=cur++l:=by
 intro l
 induction hn:l.length using Nat.strongRecOn generalizing l with
 | _ n ih=>
  intro o cur
  subst hn
  cases l with
  | nil=>rw[spl_nil]; exact⟨by simp,by simp[jn]⟩
  | cons c r=>
   rw[spl]
   split
   ·rename_i h
    obtain⟨h1,h2⟩:=ih (r.drop ws.length).length (by rw[List.length_drop,List.length_cons]; omega) (r.drop ws.length) rfl 0 []
    refine⟨by simp,?_⟩
    rw[jn_cons h1,h2,List.nil_append]
    congr 1
    have h3:=List.prefix_iff_eq_append.1 (List.isPrefixOf_iff_prefix.1 h.2)
    simpa using h3
   ·split
    ·rename_i hc
     subst hc
     split
     ·exact⟨by simp,by simp[jn]⟩
     ·rename_i t ht
      obtain⟨h1,h2⟩:=ih t.length (by have:=sE_len ht; rw[List.length_cons]; omega) t rfl o (cur++39 :: r.take (r.length - t.length))
      refine⟨h1,?_⟩
      rw[h2,List.append_assoc]
      congr 1
      rw[List.cons_append,← sE_take ht]
    ·obtain⟨h1,h2⟩:=ih r.length (by rw[List.length_cons]; omega) r rfl (brkO o c) (cur++[c])
     exact⟨h1,by rw[h2]; simp⟩
theorem fT_at {w:UInt8} {ws:Bs} : ∀ (l:Bs) (o:Int) (i c:Nat),fT w ws o i l=some c→i≤c∧c - i < l.length∧(w :: ws) <+: l.drop (c - i):=by
 intro l
 induction hn:l.length using Nat.strongRecOn generalizing l with
 | _ n ih=>
  intro o i c h
  subst hn
  cases l with
  | nil=>rw[fT] at h; cases h
  | cons x r=>
   rw[fT] at h
   split at h
   ·rename_i hp
    injection h with h
    subst h
    rw[Nat.sub_self]
    exact⟨Nat.le_refl _,by simp,List.isPrefixOf_iff_prefix.1 hp.2⟩
   ·split at h
    ·split at h
     ·cases h
     ·rename_i t ht
      have hl:=sE_len ht
      obtain⟨h1,h2,h3⟩:=ih t.length (by rw[List.length_cons]; omega) t rfl o _ c h
      refine⟨by omega,by rw[List.length_cons]; omega,?_⟩
      have e:(x :: r).drop (c - i)=t.drop (c - (i+(r.length+1 - t.length))):=by
       have e1:c - i=(r.length+1 - t.length)+(c - (i+(r.length+1 - t.length))):=by omega
       rw[e1,← List.drop_drop]
       congr 1
       have e2:r.length+1 - t.length=(r.length - t.length)+1:=by omega
       rw[e2,List.drop_succ_cons]
       exact sE_drop ht
      rw[e]; exact h3
    ·obtain⟨h1,h2,h3⟩:=ih r.length (by rw[List.length_cons]; omega) r rfl _ _ c h
     refine⟨by omega,by rw[List.length_cons]; omega,?_⟩
     have e:c - i=(c - (i+1))+1:=by omega
     rw[e,List.drop_succ_cons]; exact h3
def stName (n:Bs) : PStep:=⟨false,bsT n,0⟩
def stIdx (i:Int) : PStep:=⟨true,⟨#[]⟩,i⟩
def pIn (l:Bs) : Option (PStep×Bs):=match l with
 | []=>none
 | c :: _=>if c=39 then (pStr l).map fun p=>(stName p.1,p.2) else (pInt l).map fun p=>(stIdx p.1,p.2)
def pSteps:Nat→Bs→Option (List PStep×Bs)
 | 0,_=>none
 | n+1,l=>match l with
  | []=>some ([],[])
  | c :: r=>if c=46 then (match pName r with
    | none=>none
    | some (x,t)=>(pSteps n t).map fun p=>(stName x :: p.1,p.2))
   else if c=91 then (match pIn r with
    | none=>none
    | some (x,t)=>match t with
     | []=>none
     | d :: u=>if d=93 then (pSteps n u).map fun p=>(x :: p.1,p.2) else none)
   else some ([],l)
def pRef (l:Bs) : Option ((Bool×List PStep)×Bs):=match l with
 | []=>none
 | c :: r=>if c=36∨c=64 then (pSteps (r.length+1) r).map fun p=>((decide (c=36),p.1),p.2) else none
def sIn (x:Bs) : Option PStep:=match sStr x with
 | some v=>some (stName v)
 | none=>(sInt x).map stIdx
def isStop (c:UInt8) : Bool:=c == 46 || c == 91
def sSteps:Nat→Bs→Option (List PStep)
 | 0,_=>none
 | n+1,l=>match l with
  | []=>some []
  | c :: r=>if c=46 then (if sName (r.takeWhile fun d=>!isStop d)=true then (sSteps n (r.drop (r.takeWhile fun d=>!isStop d).length)).map fun p=>stName (r.takeWhile fun d=>!isStop d) :: p else none)
   else if c=91 then (match clo 0 0 l with
    | none=>none
    | some m=>if m < 2 then none else if (l.drop (m - 1)).head?≠some 93 then none else match sIn ((l.drop 1).take (m - 2)) with
     | none=>none
     | some x=>(sSteps n (l.drop m)).map fun p=>x :: p)
   else none
theorem sInt_con (c:UInt8) (r:Bs) : sInt (c :: r)=(if (c :: r)=[48] then some 0 else if c=45 then (if sNat r=true then some (-(digV r:Int)) else none) else (if sNat (c :: r)=true then some (digV (c :: r) : Int) else none)):=rfl
theorem pIn_con (c:UInt8) (r:Bs) : pIn (c :: r)=(if c=39 then (pStr (c :: r)).map (fun p=>(stName p.1,p.2)) else (pInt (c :: r)).map fun p=>(stIdx p.1,p.2)):=rfl
theorem sStr_int {x v:Bs} (h:sStr x=some v) : sInt x=none:=by
 cases x with
 | nil=>cases h
 | cons c r=>
  have h1:(if c=39∧sE r=some [] then sD r.dropLast else none)=some v:=h
  split at h1
  ·rename_i hc
   obtain⟨rfl,_⟩:=hc
   rw[sInt_con,if_neg (by intro e; injection e with e _; cases e),if_neg (by decide),if_neg]
   unfold sNat
   intro e
   simp only[Bool.and_eq_true] at e
   have:=e.1.2
   rw[List.all_cons,Bool.and_eq_true] at this
   have h9:isDg (39:UInt8).toNat=false:=by decide
   rw[h9] at this
   cases this.1
  ·cases h1
theorem sInt_hd {c:UInt8} {r:Bs} {n:Int} (h:sInt (c :: r)=some n) : c=45∨isDg c.toNat=true:=by
 have h1:(if (c :: r)=[48] then some 0 else if c=45 then (if sNat r=true then some (-(digV r:Int)) else none) else (if sNat (c :: r)=true then some (digV (c :: r) : Int) else none))=some n:=h
 split at h1
 ·rename_i e
  injection e with e _
  subst e
  exact .inr (by decide)
 ·split at h1
  ·rename_i hc; exact .inl hc
  ·split at h1
   ·rename_i hs
    unfold sNat at hs
    simp only[Bool.and_eq_true] at hs
    have:=hs.1.2
    rw[List.all_cons,Bool.and_eq_true] at this
    exact .inr this.1
   ·cases h1
theorem pIn_ext {x:Bs} {p:PStep} (h:sIn x=some p) {t:Bs} (ht:NoDg t) : pIn (x++t)=some (p,t):=by
 unfold sIn at h
 cases hs:sStr x with
 | some v=>
  rw[hs] at h
  injection h with h
  subst h
  have h1:=pStr_ext hs t
  cases x with
  | nil=>cases hs
  | cons c r=>
   have hc:c=39:=by
    have h2:(if c=39∧sE r=some [] then sD r.dropLast else none)=some v:=hs
    split at h2
    ·rename_i h3; exact h3.1
    ·cases h2
   subst hc
   rw[List.cons_append] at h1 ⊢
   rw[pIn_con,if_pos rfl,h1]; rfl
 | none=>
  rw[hs] at h
  cases hi:sInt x with
  | none=>rw[hi] at h; cases h
  | some n=>
   rw[hi] at h
   injection h with h
   subst h
   have h1:=pInt_ext hi ht
   cases x with
   | nil=>cases hi
   | cons c r=>
    have hc:=sInt_hd hi
    rw[List.cons_append] at h1 ⊢
    rw[pIn_con,if_neg (by rintro rfl; rcases hc with hc | hc; exact absurd hc (by decide); exact absurd hc (by decide)),h1]; rfl
theorem dg_nobr {c:UInt8} (h:isDg c.toNat=true) : isBr c=false:=by
 have:=isDg_iff.1 h
 unfold isBr
 simp only[Bool.or_eq_false_iff,beq_eq_false_iff_ne]
 refine⟨⟨⟨⟨?_,?_⟩,?_⟩,?_⟩,?_⟩ <;> (intro e; subst e; revert this; decide)
theorem sInt_cl {s:Bs} {n:Int} (h:sInt s=some n) {P:UInt8→Bool} (hP:∀ c,c=45∨isDg c.toNat=true→P c=true) : Cl P s:=by
 have key:∀ c,c=45∨isDg c.toNat=true→isBr c=false:=fun c hc=>by
  rcases hc with rfl | hc
  ·decide
  ·exact dg_nobr hc
 have hall:∀ c∈s,c=45∨isDg c.toNat=true:=by
  cases s with
  | nil=>intro c hc; cases hc
  | cons c r=>
   have h1:(if (c :: r)=[48] then some 0 else if c=45 then (if sNat r=true then some (-(digV r:Int)) else none) else (if sNat (c :: r)=true then some (digV (c :: r) : Int) else none))=some n:=h
   intro d hd
   split at h1
   ·rename_i e
    rw[e] at hd
    simp at hd
    subst hd
    exact .inr (by decide)
   ·split at h1
    ·rename_i hc
     split at h1
     ·rename_i hs
      unfold sNat at hs
      simp only[Bool.and_eq_true] at hs
      rcases List.mem_cons.1 hd with rfl | hd
      ·exact .inl hc
      ·exact .inr (List.all_eq_true.1 hs.1.2 d hd)
     ·cases h1
    ·split at h1
     ·rename_i hs
      unfold sNat at hs
      simp only[Bool.and_eq_true] at hs
      exact .inr (List.all_eq_true.1 hs.1.2 d hd)
     ·cases h1
 apply Cl.all
 rw[List.all_eq_true]
 intro c hc
 simp[hP c (hall c hc),key c (hall c hc)]
theorem sStr_cl {s v:Bs} (h:sStr s=some v) (P:UInt8→Bool) : Cl P s:=by
 cases s with
 | nil=>cases h
 | cons c r=>
  have h1:(if c=39∧sE r=some [] then sD r.dropLast else none)=some v:=h
  split at h1
  ·rename_i hc
   obtain⟨rfl,hq⟩:=hc
   have:=Cl.quo (P:=P) hq .nil
   rwa [List.append_nil] at this
  ·cases h1
theorem pIn_some {l t:Bs} {p:PStep} (h:pIn l=some (p,t)) : ∃ x,l=x++t∧sIn x=some p∧Cl (fun _=>true) x:=by
 cases l with
 | nil=>cases h
 | cons c r=>
  have h1:(if c=39 then (pStr (c :: r)).map (fun p=>(stName p.1,p.2)) else (pInt (c :: r)).map fun p=>(stIdx p.1,p.2))=some (p,t):=h
  split at h1
  ·cases hq:pStr (c :: r) with
   | none=>rw[hq] at h1; cases h1
   | some q=>
    obtain⟨v,u⟩:=q
    rw[hq] at h1
    injection h1 with h1
    injection h1 with h2 h3
    simp only at h2 h3
    subst h2; subst h3
    obtain⟨s,e,hs,-⟩:=pStr_some hq
    exact⟨s,e,by unfold sIn; rw[hs],sStr_cl hs _⟩
  ·cases hq:pInt (c :: r) with
   | none=>rw[hq] at h1; cases h1
   | some q=>
    obtain⟨v,u⟩:=q
    rw[hq] at h1
    injection h1 with h1
    injection h1 with h2 h3
    simp only at h2 h3
    subst h2; subst h3
    obtain⟨s,e,hs⟩:=pInt_some hq
    refine⟨s,e,?_,sInt_cl hs fun _ _=>rfl⟩
    unfold sIn
    cases hx:sStr s with
    | some v'=>rw[sStr_int hx] at hs; cases hs
    | none=>simp only; rw[hs]; rfl
theorem pSteps_nil (n:Nat) : pSteps (n+1) []=some ([],[]):=by rw[pSteps]
theorem pSteps_con (n : Nat) (c : UInt8) (r : Bs) : pSteps (n + 1) (c :: r) = (if c = 46 then (match pName r with
        | none=>none
        | some (x,t)=>(pSteps n t).map fun p=>(stName x :: p.1,p.2))
   else if c=91 then (match pIn r with
    | none=>none
    | some (x,t)=>match t with
     | []=>none
     | d :: u=>if d=93 then (pSteps n u).map fun p=>(x :: p.1,p.2) else none)
   else some ([],c :: r)):=by rw[pSteps.eq_def] <;> rfl
theorem sSteps_nil (n:Nat) : sSteps (n+1) []=some []:=by rw[sSteps]
theorem sSteps_con (n:Nat) (c:UInt8) (r:Bs) : sSteps (n+1) (c :: r)=(if c=46 then (if sName (r.takeWhile fun d=>!isStop d)=true then (sSteps n (r.drop (r.takeWhile fun d=>!isStop d).length)).map fun p=>stName (r.takeWhile fun d=>!isStop d) :: p else none)
   else if c=91 then (match clo 0 0 (c :: r) with
    | none=>none
    | some m=>if m < 2 then none else if ((c :: r).drop (m - 1)).head?≠some 93 then none else match sIn (((c :: r).drop 1).take (m - 2)) with
     | none=>none
     | some x=>(sSteps n ((c :: r).drop m)).map fun p=>x :: p)
   else none):=by rw[sSteps.eq_def] <;> rfl
def RefEnd (t:Bs) : Prop:=∀ c r,t=c :: r→isStop c=false∧isNm c=false
theorem stop_nm {c:UInt8} (h:isStop c=true) : isNm c=false:=by
 unfold isStop at h
 simp only[Bool.or_eq_true,beq_iff_eq] at h
 rcases h with rfl | rfl <;> decide
theorem nm_stop {c:UInt8} (h:isNm c=true) : isStop c=false:=by
 cases hs:isStop c with
 | false=>rfl
 | true=>rw[stop_nm hs] at h; cases h
theorem sName_nostop {x:Bs} (h:sName x=true) : x.all (fun d=>!isStop d)=true:=by
 cases x with
 | nil=>cases h
 | cons c r=>
  have h1:(isLet c && r.all isNm)=true:=h
  rw[Bool.and_eq_true] at h1
  rw[List.all_eq_true]
  intro d hd
  have:isNm d=true:=by
   rcases List.mem_cons.1 hd with rfl | hd
   ·unfold isNm; rw[h1.1]; rfl
   ·exact List.all_eq_true.1 h1.2 d hd
  rw[nm_stop this]; rfl
theorem take_mid {l:Bs} {m:Nat} (h2:¬ m < 2) (h:((l.drop (m - 1)).head?=some 93)) {c:UInt8} {r:Bs} (hl:l=c :: r) : l=c :: ((l.drop 1).take (m - 2)++93 :: l.drop m):=by
 subst hl
 rw[List.drop_one,List.tail_cons]
 congr 1
 have e:m - 1=(m - 2)+1:=by omega
 rw[e,List.drop_succ_cons] at h
 cases hd:r.drop (m - 2) with
 | nil=>rw[hd] at h; cases h
 | cons a b=>
  rw[hd] at h
  injection h with h
  subst h
  have e2:(c :: r).drop m=b:=by
   have:m=(m - 2)+1+1:=by omega
   rw[this,List.drop_succ_cons,← List.drop_drop,hd]; rfl
  rw[e2,← hd,List.take_append_drop]
theorem pSteps_ext:∀ (n:Nat) (s:Bs) (ps:List PStep),sSteps n s=some ps→∀ (t:Bs),RefEnd t→∀ m,s.length < m→pSteps m (s++t)=some (ps,t)
 | 0,s,ps,h,_,_,_,_=>by rw[sSteps] at h; cases h
 | n+1,[],ps,h,t,ht,m,hm=>by
  rw[sSteps_nil] at h
  injection h with h
  subst h
  obtain⟨k,rfl⟩ : ∃ k,m=k+1:=⟨m - 1,by simp at hm; omega⟩
  rw[List.nil_append]
  cases t with
  | nil=>exact pSteps_nil k
  | cons c r=>
   have:=(ht c r rfl).1
   unfold isStop at this
   simp only[Bool.or_eq_false_iff,beq_eq_false_iff_ne] at this
   rw[pSteps_con,if_neg this.1,if_neg this.2]
 | n+1,c :: r,ps,h,t,ht,m,hm=>by
  obtain⟨k,rfl⟩ : ∃ k,m=k+1:=⟨m - 1,by simp at hm; omega⟩
  rw[sSteps_con] at h
  rw[List.cons_append,pSteps_con]
  split at h
  ·rename_i hc
   subst hc
   rw[if_pos rfl]
   split at h
   ·rename_i hn
    cases hq:sSteps n (r.drop (r.takeWhile fun d=>!isStop d).length) with
    | none=>rw[hq] at h; cases h
    | some qs=>
     rw[hq] at h
     injection h with h
     subst h
     have e:=tw_split (fun d=>!isStop d) r
     have hnx:NoNm (r.drop (r.takeWhile fun d=>!isStop d).length++t):=by
      intro a b hab
      cases hd:r.drop (r.takeWhile fun d=>!isStop d).length with
      | nil=>rw[hd,List.nil_append] at hab; exact (ht a b hab).2
      | cons x y=>
       rw[hd,List.cons_append] at hab
       injection hab with h1 _
       subst h1
       have:=tw_next (fun d=>!isStop d) r x y hd
       exact stop_nm (by simpa using this)
     have hp:pName (r++t)=some (r.takeWhile (fun d=>!isStop d),r.drop (r.takeWhile fun d=>!isStop d).length++t):=by
      have h5:=pName_ext hn hnx
      rw[← List.append_assoc,← e] at h5
      exact h5
     rw[hp]
     simp only
     have ih:=pSteps_ext n _ qs hq t ht k (by
      rw[List.length_drop]
      have h6:1≤(r.takeWhile fun d=>!isStop d).length:=by
       cases hx:r.takeWhile (fun d=>!isStop d) with
       | nil=>rw[hx] at hn; cases hn
       | cons=>simp
      simp at hm; omega)
     rw[ih]; rfl
   ·cases h
  ·rename_i h46
   split at h
   ·rename_i hc
    subst hc
    rw[if_neg h46,if_pos rfl]
    cases hcl:clo 0 0 (91 :: r) with
    | none=>rw[hcl] at h; cases h
    | some mm=>
     rw[hcl] at h
     simp only at h
     split at h
     ·cases h
     ·rename_i hm2
      split at h
      ·cases h
      ·rename_i hh
       have hh:((91 :: r:Bs).drop (mm - 1)).head?=some 93:=Classical.not_not.1 hh
       have e:=take_mid hm2 hh rfl
       injection e with _ e
       cases hi:sIn (((91 :: r:Bs).drop 1).take (mm - 2)) with
       | none=>rw[hi] at h; cases h
       | some x=>
        rw[hi] at h
        simp only at h
        cases hq:sSteps n ((91 :: r).drop mm) with
        | none=>rw[hq] at h; cases h
        | some qs=>
         rw[hq] at h
         injection h with h
         subst h
         have hp:pIn (r++t)=some (x,93 :: ((91 :: r).drop mm++t)):=by
          have h5:=pIn_ext hi (t:=93 :: ((91 :: r).drop mm++t)) (by intro a b hab; injection hab with h1 _; subst h1; decide)
          rw[← List.cons_append,← List.append_assoc,← e] at h5
          exact h5
         rw[hp]
         simp only
         rw[if_pos (by trivial)]
         have ih:=pSteps_ext n _ qs hq t ht k (by rw[List.length_drop]; simp at hm ⊢; omega)
         rw[ih]; rfl
   ·cases h
def rfC (c:UInt8) : Bool:=isNm c || c == 46 || c == 36 || c == 64
theorem sName_cl {x:Bs} (h:sName x=true) : Cl rfC x:=by
 apply Cl.all
 rw[List.all_eq_true]
 intro d hd
 have h1:isNm d=true:=by
  cases x with
  | nil=>cases hd
  | cons c r=>
   have h1:(isLet c && r.all isNm)=true:=h
   rw[Bool.and_eq_true] at h1
   rcases List.mem_cons.1 hd with rfl | hd
   ·unfold isNm; rw[h1.1]; rfl
   ·exact List.all_eq_true.1 h1.2 d hd
 have h2:isBr d=false:=by
  cases hb:isBr d with
  | false=>rfl
  | true=>
   unfold isBr at hb
   simp only[Bool.or_eq_true,beq_iff_eq] at hb
   rcases hb with (((rfl | rfl) | rfl) | rfl) | rfl <;> exact absurd h1 (by decide)
 unfold rfC
 rw[h1,h2]; rfl
theorem pSteps_some:∀ (m:Nat) (l t:Bs) (ps:List PStep),pSteps m l=some (ps,t)→∃ s,l=s++t∧(∀ n,s.length < n→sSteps n s=some ps)∧Cl rfC s∧(∀ c r,s=c :: r→isStop c=true)
 | 0,l,t,ps,h=>by rw[pSteps] at h; cases h
 | m+1,[],t,ps,h=>by
  rw[pSteps_nil] at h
  injection h with h
  injection h with h1 h2
  subst h1; subst h2
  exact⟨[],rfl,fun n hn=>by obtain⟨k,rfl⟩ : ∃ k,n=k+1:=⟨n - 1,by simp at hn; omega⟩; exact sSteps_nil k,.nil,fun c r h=>by cases h⟩
 | m+1,c :: r,t,ps,h=>by
  rw[pSteps_con] at h
  split at h
  ·rename_i hc
   subst hc
   cases hp:pName r with
   | none=>rw[hp] at h; cases h
   | some q=>
    obtain⟨x,t1⟩:=q
    rw[hp] at h
    simp only at h
    cases hq:pSteps m t1 with
    | none=>rw[hq] at h; cases h
    | some q2=>
     obtain⟨qs,t2⟩:=q2
     rw[hq] at h
     injection h with h
     injection h with h1 h2
     simp only at h1 h2
     subst h1; subst h2
     obtain⟨s',e,hs,hcl,hst⟩:=pSteps_some m t1 t2 qs hq
     obtain⟨e2,hn,_⟩:=pName_some hp
     subst e2; subst e
     refine⟨46 :: (x++s'),by simp,fun n hn2=>?_,.chr (by decide) (by decide) ((sName_cl hn).app hcl),fun c r h=>by injection h with h _; subst h; rfl⟩
     obtain⟨k,rfl⟩ : ∃ k,n=k+1:=⟨n - 1,by simp at hn2; omega⟩
     have e3:(x++s').takeWhile (fun d=>!isStop d)=x:=by
      rw[tw_app (sName_nostop hn),tw_stop,List.append_nil]
      intro a b hab
      rw[hst a b hab]; rfl
     rw[sSteps_con,if_pos rfl,e3,if_pos hn]
     have e4:(x++s').drop x.length=s':=by simp
     rw[e4,hs k (by simp at hn2; omega)]; rfl
  ·rename_i h46
   split at h
   ·rename_i hc
    subst hc
    cases hp:pIn r with
    | none=>rw[hp] at h; cases h
    | some q=>
     obtain⟨x,t1⟩:=q
     rw[hp] at h
     simp only at h
     match t1,hp,h with
     | [],_,h=>cases h
     | d :: u,hp,h=>
      simp only at h
      split at h
      ·rename_i hd
       subst hd
       cases hq:pSteps m u with
       | none=>rw[hq] at h; cases h
       | some q2=>
        obtain⟨qs,t2⟩:=q2
        rw[hq] at h
        injection h with h
        injection h with h1 h2
        simp only at h1 h2
        subst h1; subst h2
        obtain⟨s',e,hs,hcl,hst⟩:=pSteps_some m u t2 qs hq
        obtain⟨xx,e2,hi,hxc⟩:=pIn_some hp
        subst e2; subst e
        refine⟨91 :: (xx++93 :: s'),by simp,fun n hn2=>?_,.brk hxc hcl,fun c r h=>by injection h with h _; subst h; rfl⟩
        obtain⟨k,rfl⟩ : ∃ k,n=k+1:=⟨n - 1,by simp at hn2; omega⟩
        rw[sSteps_con,if_neg (by decide),if_pos rfl,clo_at hxc (.inr rfl) (.inr rfl)]
        simp only
        have e5:(91 :: (xx++93 :: s') : Bs).drop (xx.length+2 - 1)=93 :: s':=by
         have:xx.length+2 - 1=xx.length+1:=by omega
         rw[this,List.drop_succ_cons]; simp
        have e6:((91 :: (xx++93 :: s') : Bs).drop 1).take (xx.length+2 - 2)=xx:=by simp
        have e7:(91 :: (xx++93 :: s') : Bs).drop (xx.length+2)=s':=by
         rw[show xx.length+2=(xx.length+1)+1 from rfl,List.drop_succ_cons]; simp
        rw[if_neg (by omega),e5,if_neg (by simp),e6,hi]
        simp only
        rw[e7,hs k (by simp at hn2; omega)]; rfl
      ·cases h
   ·rename_i h91
    injection h with h
    injection h with h1 h2
    subst h1; subst h2
    exact⟨[],rfl,fun n hn=>by obtain⟨k,rfl⟩ : ∃ k,n=k+1:=⟨n - 1,by simp at hn; omega⟩; exact sSteps_nil k,.nil,fun c r h=>by cases h⟩
def sRef (l:Bs) : Option (Bool×List PStep):=match l with
 | []=>none
 | c :: r=>if c=36∨c=64 then (sSteps (r.length+1) r).map fun p=>(decide (c=36),p) else none
theorem pRef_ext {s:Bs} {x:Bool×List PStep} (h:sRef s=some x) {t:Bs} (ht:RefEnd t) : pRef (s++t)=some (x,t):=by
 cases s with
 | nil=>cases h
 | cons c r=>
  have h1:(if c=36∨c=64 then (sSteps (r.length+1) r).map (fun p=>(decide (c=36),p)) else none)=some x:=h
  have e:pRef (c :: r++t)=(if c=36∨c=64 then (pSteps ((r++t).length+1) (r++t)).map (fun p=>((decide (c=36),p.1),p.2)) else none):=rfl
  rw[e]
  split at h1
  ·rename_i hc
   rw[if_pos hc]
   cases hq:sSteps (r.length+1) r with
   | none=>rw[hq] at h1; cases h1
   | some ps=>
    rw[hq] at h1
    injection h1 with h1
    subst h1
    rw[pSteps_ext _ _ _ hq t ht _ (by rw[List.length_append]; omega)]; rfl
  ·cases h1
theorem pRef_some {l t:Bs} {x:Bool×List PStep} (h:pRef l=some (x,t)) : ∃ s,l=s++t∧sRef s=some x∧Cl rfC s∧∃ c r,s=c :: r∧(c=36∨c=64):=by
 cases l with
 | nil=>cases h
 | cons c r=>
  have h1:(if c=36∨c=64 then (pSteps (r.length+1) r).map (fun p=>((decide (c=36),p.1),p.2)) else none)=some (x,t):=h
  split at h1
  ·rename_i hc
   cases hq:pSteps (r.length+1) r with
   | none=>rw[hq] at h1; cases h1
   | some q=>
    obtain⟨ps,u⟩:=q
    rw[hq] at h1
    injection h1 with h1
    injection h1 with h2 h3
    simp only at h2 h3
    subst h2; subst h3
    obtain⟨s,rfl,hs,hcl,-⟩:=pSteps_some _ _ _ _ hq
    refine⟨c :: s,rfl,?_,.chr (by rcases hc with rfl | rfl <;> decide) (by rcases hc with rfl | rfl <;> decide) hcl,c,s,rfl,hc⟩
    show (if c=36∨c=64 then (sSteps (s.length+1) s).map (fun p=>(decide (c=36),p)) else none)=_
    rw[if_pos hc,hs _ (by omega)]; rfl
  ·cases h1
def wdT:Bs:=[116,114,117,101]
def wdF:Bs:=[102,97,108,115,101]
def wdN:Bs:=[110,117,108,108]
def wdL:Bs:=[108,101,110,103,116,104,40]
def pWd (w l:Bs) : Option Bs:=if w.isPrefixOf l=true then some (l.drop w.length) else none
theorem pWd_app (w t:Bs) : pWd w (w++t)=some t:=by
 unfold pWd
 rw[if_pos (List.isPrefixOf_iff_prefix.2 (List.prefix_append w t))]
 simp
theorem pWd_some {w l t:Bs} (h:pWd w l=some t) : l=w++t:=by
 unfold pWd at h
 split at h
 ·rename_i hp
  injection h with h
  subst h
  exact (List.prefix_iff_eq_append.1 (List.isPrefixOf_iff_prefix.1 hp)).symm
 ·cases h
def opI (n:Int) : PFOp:=⟨1,n,⟨#[]⟩,false,[]⟩
def opS (v:Bs) : PFOp:=⟨2,0,bsT v,false,[]⟩
def opK (k:Int) : PFOp:=⟨k,0,⟨#[]⟩,false,[]⟩
def opR' (k:Int) (x:Bool×List PStep) : PFOp:=⟨k,0,⟨#[]⟩,x.1,x.2⟩
def pOpd (l:Bs) : Option (PFOp×Bs):=match l with
 | []=>none
 | c :: _=>if c=39 then (pStr l).map fun p=>(opS p.1,p.2)
  else if c=116 then (pWd wdT l).map fun t=>(opK 3,t)
  else if c=102 then (pWd wdF l).map fun t=>(opK 4,t)
  else if c=110 then (pWd wdN l).map fun t=>(opK 5,t)
  else if c=108 then (match pWd wdL l with
   | none=>none
   | some u=>match pRef u with
    | none=>none
    | some (x,t)=>match t with
     | []=>none
     | d :: v=>if d=41 then some (opR' 7 x,v) else none)
  else if c=64∨c=36 then (pRef l).map fun p=>(opR' 6 p.1,p.2)
  else (pInt l).map fun p=>(opI p.1,p.2)
theorem pOpd_con (c:UInt8) (r:Bs) : pOpd (c :: r)=(if c=39 then (pStr (c :: r)).map (fun p=>(opS p.1,p.2))
  else if c=116 then (pWd wdT (c :: r)).map (fun t=>(opK 3,t))
  else if c=102 then (pWd wdF (c :: r)).map (fun t=>(opK 4,t))
  else if c=110 then (pWd wdN (c :: r)).map (fun t=>(opK 5,t))
  else if c=108 then (match pWd wdL (c :: r) with
   | none=>none
   | some u=>match pRef u with
    | none=>none
    | some (x,t)=>match t with
     | []=>none
     | d :: v=>if d=41 then some (opR' 7 x,v) else none)
  else if c=64∨c=36 then (pRef (c :: r)).map (fun p=>(opR' 6 p.1,p.2))
  else (pInt (c :: r)).map fun p=>(opI p.1,p.2)):=rfl
def sOpd (s:Bs) : Option PFOp:=match sInt s with
 | some n=>some (opI n)
 | none=>match sStr s with
  | some v=>some (opS v)
  | none=>if s=wdT then some (opK 3) else if s=wdF then some (opK 4) else if s=wdN then some (opK 5)
   else if wdL.isPrefixOf s=true∧s.getLast?=some 41 then (sRef ((s.drop 7).take (s.length - 8))).map (opR' 7) else (sRef s).map (opR' 6)
theorem hd_int {c:UInt8} {r:Bs} (h:¬ (c=45∨isDg c.toNat=true)) : sInt (c :: r)=none:=by
 cases hs:sInt (c :: r) with
 | none=>rfl
 | some n=>exact absurd (sInt_hd hs) h
theorem hd_str {c:UInt8} {r:Bs} (h:c≠39) : sStr (c :: r)=none:=by
 show (if c=39∧sE r=some [] then sD r.dropLast else none)=none
 rw[if_neg fun e=>h e.1]
theorem nm_of_dg {c:UInt8} (h:isDg c.toNat=true) : isNm c=true:=by unfold isNm; rw[h,Bool.or_true]
theorem RefEnd.dg {t:Bs} (h:RefEnd t) : NoDg t:=fun c r e=>by
 cases hd:isDg c.toNat with
 | false=>rfl
 | true=>have:=(h c r e).2; rw[nm_of_dg hd] at this; cases this
theorem pOpd_ext {s:Bs} {o:PFOp} (h:sOpd s=some o) {t:Bs} (ht:RefEnd t) : pOpd (s++t)=some (o,t):=by
 unfold sOpd at h
 cases hi:sInt s with
 | some n=>
  rw[hi] at h
  injection h with h
  subst h
  have h1:=pInt_ext hi ht.dg
  cases s with
  | nil=>cases hi
  | cons c r=>
   have hc:=sInt_hd hi
   rw[List.cons_append] at h1 ⊢
   rw[pOpd_con,if_neg (by rintro rfl; revert hc; decide),if_neg (by rintro rfl; revert hc; decide),if_neg (by rintro rfl; revert hc; decide),if_neg (by rintro rfl; revert hc; decide),if_neg (by rintro rfl; revert hc; decide),if_neg (by rintro (rfl | rfl) <;> (revert hc; decide)),h1]
   rfl
 | none=>
  rw[hi] at h
  simp only at h
  cases hs:sStr s with
  | some v=>
   rw[hs] at h
   injection h with h
   subst h
   have h1:=pStr_ext hs t
   cases s with
   | nil=>cases hs
   | cons c r=>
    have hc:c=39:=by
     cases hx:decide (c=39) with
     | true=>simpa using hx
     | false=>rw[hd_str (by simpa using hx)] at hs; cases hs
    subst hc
    rw[List.cons_append] at h1 ⊢
    rw[pOpd_con,if_pos rfl,h1]; rfl
  | none=>
   rw[hs] at h
   simp only at h
   split at h
   ·rename_i e
    injection h with h
    subst h; subst e
    rw[show wdT++t=116 :: ([114,117,101]++t) from rfl,pOpd_con,if_neg (by decide),if_pos rfl,show (116 :: ([114,117,101]++t) : Bs)=wdT++t from rfl,pWd_app]; rfl
   ·split at h
    ·rename_i e
     injection h with h
     subst h; subst e
     rw[show wdF++t=102 :: ([97,108,115,101]++t) from rfl,pOpd_con,if_neg (by decide),if_neg (by decide),if_pos rfl,show (102 :: ([97,108,115,101]++t) : Bs)=wdF++t from rfl,pWd_app]; rfl
    ·split at h
     ·rename_i e
      injection h with h
      subst h; subst e
      rw[show wdN++t=110 :: ([117,108,108]++t) from rfl,pOpd_con,if_neg (by decide),if_neg (by decide),if_neg (by decide),if_pos rfl,show (110 :: ([117,108,108]++t) : Bs)=wdN++t from rfl,pWd_app]; rfl
     ·split at h
      ·rename_i hl
       obtain⟨h1,h2⟩:=hl
       cases hr:sRef ((s.drop 7).take (s.length - 8)) with
       | none=>rw[hr] at h; cases h
       | some x=>
        rw[hr] at h
        injection h with h
        subst h
        have e1:=(List.prefix_iff_eq_append.1 (List.isPrefixOf_iff_prefix.1 h1)).symm
        have e7:wdL.length=7:=rfl
        rw[e7] at e1
        -- the text is the word,the ref,the bracket
        have hne:s.drop 7≠[]:=by
         intro e
         rw[e,List.append_nil] at e1
         rw[e1] at h2
         cases h2
        have hlast:s.drop 7=(s.drop 7).take (s.length - 8)++[41]:=by
         obtain⟨ini,hini⟩ : ∃ ini,s.drop 7=ini++[41]:=by
          rcases List.eq_nil_or_concat (s.drop 7) with e | ⟨d',y,e⟩
          ·exact absurd e hne
          ·rw[List.concat_eq_append] at e
           rw[e,← List.append_assoc] at e1
           rw[e1,List.getLast?_concat] at h2
           injection h2 with h2
           exact⟨d',by rw[e,h2]⟩
         have hll:ini.length=s.length - 8:=by
          have:=congrArg List.length hini
          rw[List.length_drop,List.length_append,List.length_singleton] at this
          omega
         rw[hini,← hll,List.take_left]
        generalize (s.drop 7).take (s.length - 8)=rs at *
        rw[hlast] at e1
        subst e1
        rw[show wdL++(rs++[41])++t=108 :: ([101,110,103,116,104,40]++(rs++41 :: t)) by simp[wdL],pOpd_con,if_neg (by decide),if_neg (by decide),if_neg (by decide),if_neg (by decide),if_pos rfl,show (108 :: ([101,110,103,116,104,40]++(rs++41 :: t)) : Bs)=wdL++(rs++41 :: t) from rfl,pWd_app]
        simp only
        rw[pRef_ext hr (t:=41 :: t) (by intro a b hab; injection hab with h1 _; subst h1; exact⟨by decide,by decide⟩)]
        simp
      ·cases hr:sRef s with
       | none=>rw[hr] at h; cases h
       | some x=>
        rw[hr] at h
        injection h with h
        subst h
        have h1:=pRef_ext hr ht
        cases s with
        | nil=>cases hr
        | cons c r=>
         have hc:c=36∨c=64:=by
          have h5:(if c=36∨c=64 then (sSteps (r.length+1) r).map (fun p=>(decide (c=36),p)) else none)=some x:=hr
          split at h5
          ·assumption
          ·cases h5
         rw[List.cons_append] at h1 ⊢
         rw[pOpd_con,if_neg (by rintro rfl; revert hc; decide),if_neg (by rintro rfl; revert hc; decide),if_neg (by rintro rfl; revert hc; decide),if_neg (by rintro rfl; revert hc; decide),if_neg (by rintro rfl; revert hc; decide),if_pos (by rcases hc with h | h; exact .inr h; exact .inl h),h1]
         rfl
def opC (c:UInt8) : Bool:=rfC c || c == 45
theorem rf_op (c:UInt8) (h:rfC c=true) : opC c=true:=by unfold opC; rw[h]; rfl
theorem opd_T:sOpd wdT=some (opK 3):=by
 unfold sOpd
 rw[show sInt wdT=none from hd_int (by decide),show sStr wdT=none from hd_str (by decide)]
 simp only
 rw[if_pos (by trivial)]
theorem opd_F:sOpd wdF=some (opK 4):=by
 unfold sOpd
 rw[show sInt wdF=none from hd_int (by decide),show sStr wdF=none from hd_str (by decide)]
 simp only
 rw[if_neg (by decide),if_pos (by trivial)]
theorem opd_N:sOpd wdN=some (opK 5):=by
 unfold sOpd
 rw[show sInt wdN=none from hd_int (by decide),show sStr wdN=none from hd_str (by decide)]
 simp only
 rw[if_neg (by decide),if_neg (by decide),if_pos (by trivial)]
theorem pOpd_some {l t:Bs} {o:PFOp} (h:pOpd l=some (o,t)) : ∃ s,l=s++t∧sOpd s=some o∧Cl opC s:=by
 cases l with
 | nil=>cases h
 | cons c r=>
  rw[pOpd_con] at h
  split at h
  ·cases hq:pStr (c :: r) with
   | none=>rw[hq] at h; cases h
   | some q=>
    obtain⟨v,u⟩:=q
    rw[hq] at h
    injection h with h
    injection h with h1 h2
    simp only at h1 h2
    subst h1; subst h2
    obtain⟨s,e,hs,-⟩:=pStr_some hq
    exact⟨s,e,by unfold sOpd; rw[sStr_int hs,hs],sStr_cl hs _⟩
  ·rename_i h39
   split at h
   ·cases hq:pWd wdT (c :: r) with
    | none=>rw[hq] at h; cases h
    | some u=>
     rw[hq] at h
     injection h with h
     injection h with h1 h2
     subst h1; subst h2
     exact⟨wdT,pWd_some hq,opd_T,Cl.all (by decide)⟩
   ·split at h
    ·cases hq:pWd wdF (c :: r) with
     | none=>rw[hq] at h; cases h
     | some u=>
      rw[hq] at h
      injection h with h
      injection h with h1 h2
      subst h1; subst h2
      exact⟨wdF,pWd_some hq,opd_F,Cl.all (by decide)⟩
    ·split at h
     ·cases hq:pWd wdN (c :: r) with
      | none=>rw[hq] at h; cases h
      | some u=>
       rw[hq] at h
       injection h with h
       injection h with h1 h2
       subst h1; subst h2
       exact⟨wdN,pWd_some hq,opd_N,Cl.all (by decide)⟩
     ·split at h
      ·rename_i h108
       cases hq:pWd wdL (c :: r) with
       | none=>rw[hq] at h; cases h
       | some u=>
        rw[hq] at h
        simp only at h
        cases hp:pRef u with
        | none=>rw[hp] at h; cases h
        | some q=>
         obtain⟨x,t1⟩:=q
         rw[hp] at h
         simp only at h
         match t1,hp,h with
         | [],_,h=>cases h
         | d :: v,hp,h=>
          simp only at h
          split at h
          ·rename_i hd
           subst hd
           injection h with h
           injection h with h1 h2
           subst h1; subst h2
           obtain⟨rs,e,hr,hcl,-⟩:=pRef_some hp
           subst e
           refine⟨wdL++(rs++[41]),?_,?_,?_⟩
           ·rw[pWd_some hq]; simp
           ·have e0:wdL++(rs++[41])=108 :: ([101,110,103,116,104,40]++(rs++[41])):=rfl
            unfold sOpd
            rw[e0,hd_int (by decide),hd_str (by decide)]
            simp only
            rw[if_neg (by intro e; injection e with e _; cases e),if_neg (by intro e; injection e with e _; cases e),if_neg (by intro e; injection e with e _; cases e)]
            rw[← e0,if_pos]
            ·have e1:((wdL++(rs++[41])).drop 7).take ((wdL++(rs++[41])).length - 8)=rs:=by
              have:(wdL++(rs++[41])).length - 8=rs.length:=by simp[wdL]
              rw[this]
              have e2:(wdL++(rs++[41])).drop 7=rs++[41]:=by simp[wdL]
              rw[e2,List.take_left]
             rw[e1,hr]; rfl
            ·refine⟨List.isPrefixOf_iff_prefix.2 (List.prefix_append _ _),?_⟩
             rw[← List.append_assoc,List.getLast?_concat]
           ·have hw:Cl opC ([108,101,110,103,116,104] : Bs):=Cl.all (by decide)
            have:=hw.app (Cl.par (P:=opC) hcl .nil)
            have e:wdL++(rs++[41])=([108,101,110,103,116,104] : Bs)++(40 :: (rs++41 :: [])):=by simp[wdL]
            rw[e]; exact this
          ·cases h
      ·split at h
       ·rename_i hc
        cases hp:pRef (c :: r) with
        | none=>rw[hp] at h; cases h
        | some q=>
         obtain⟨x,u⟩:=q
         rw[hp] at h
         injection h with h
         injection h with h1 h2
         simp only at h1 h2
         subst h1; subst h2
         obtain⟨s,e,hr,hcl,d,y,rfl,hd⟩:=pRef_some hp
         refine⟨d :: y,e,?_,hcl.mono rf_op⟩
         unfold sOpd
         rw[hd_int (by rcases hd with rfl | rfl <;> decide),hd_str (by rcases hd with rfl | rfl <;> decide)]
         simp only
         rw[if_neg (by intro e; injection e with e _; rcases hd with rfl | rfl <;> cases e),if_neg (by intro e; injection e with e _; rcases hd with rfl | rfl <;> cases e),if_neg (by intro e; injection e with e _; rcases hd with rfl | rfl <;> cases e),if_neg,hr]
         ·rfl
         ·rintro⟨e,_⟩
          have:=List.isPrefixOf_iff_prefix.1 e
          obtain⟨z,hz⟩:=this
          injection hz with hz _
          rcases hd with rfl | rfl <;> cases hz
       ·cases hq:pInt (c :: r) with
        | none=>rw[hq] at h; cases h
        | some q=>
         obtain⟨n,u⟩:=q
         rw[hq] at h
         injection h with h
         injection h with h1 h2
         simp only at h1 h2
         subst h1; subst h2
         obtain⟨s,e,hs⟩:=pInt_some hq
         refine⟨s,e,by unfold sOpd; rw[hs],sInt_cl hs fun c hc=>?_⟩
         unfold opC rfC
         rcases hc with rfl | hc
         ·decide
         ·rw[nm_of_dg hc]; rfl
def pCmp (l:Bs) : Option (Int×Bs):=match l with
 | []=>none
 | c :: r=>if c=61 then (match r with
   | []=>none
   | d :: q=>if d=61 then some (1,q) else none)
  else if c=33 then (match r with
   | []=>none
   | d :: q=>if d=61 then some (2,q) else none)
  else if c=60 then (match r with
   | []=>some (3,r)
   | d :: q=>if d=61 then some (4,q) else some (3,r))
  else if c=62 then (match r with
   | []=>some (5,r)
   | d :: q=>if d=61 then some (6,q) else some (5,r))
  else none
def isCm (c:UInt8) : Bool:=c == 61 || c == 33 || c == 60 || c == 62
theorem pCmp_hd {l t:Bs} {n:Int} (h:pCmp l=some (n,t)) : ∃ c r,l=c :: r∧isCm c=true∧t.length < l.length∧∃ g,l=g++t:=by
 cases l with
 | nil=>cases h
 | cons c r=>
  refine⟨c,r,rfl,?_⟩
  unfold pCmp at h
  simp only at h
  split at h
  ·rename_i hc; subst hc
   match r,h with
   | [],h=>cases h
   | d :: q,h=>
    simp only at h
    split at h
    ·injection h with h; injection h with _ h; subst h
     exact⟨by decide,by simp; omega,[61,d],rfl⟩
    ·cases h
  ·split at h
   ·rename_i hc; subst hc
    match r,h with
    | [],h=>cases h
    | d :: q,h=>
     simp only at h
     split at h
     ·injection h with h; injection h with _ h; subst h
      exact⟨by decide,by simp; omega,[33,d],rfl⟩
     ·cases h
   ·split at h
    ·rename_i hc; subst hc
     match r,h with
     | [],h=>simp only at h; injection h with h; injection h with _ h; subst h; exact⟨by decide,by simp,[60],rfl⟩
     | d :: q,h=>
      simp only at h
      split at h
      ·injection h with h; injection h with _ h; subst h
       exact⟨by decide,by simp; omega,[60,d],rfl⟩
      ·injection h with h; injection h with _ h; subst h
       exact⟨by decide,by simp,[60],rfl⟩
    ·split at h
     ·rename_i hc; subst hc
      match r,h with
      | [],h=>simp only at h; injection h with h; injection h with _ h; subst h; exact⟨by decide,by simp,[62],rfl⟩
      | d :: q,h=>
       simp only at h
       split at h
       ·injection h with h; injection h with _ h; subst h
        exact⟨by decide,by simp; omega,[62,d],rfl⟩
       ·injection h with h; injection h with _ h; subst h
        exact⟨by decide,by simp,[62],rfl⟩
     ·cases h
theorem pCmp_no {l:Bs} (h:∀ c r,l=c :: r→isCm c=false) : pCmp l=none:=by
 cases hp:pCmp l with
 | none=>rfl
 | some q=>
  obtain⟨n,t⟩:=q
  obtain⟨c,r,e,hc,-⟩:=pCmp_hd hp
  rw[h c r e] at hc
  cases hc
end Go.Proofs.YtkjcgkfejdogbaaGreatDoor
