import Derived.Test.YtkjcgkfejdogbaaGreatDoorBz2
import Derived.Test.YtkjcgkfejdogbaaGreatDoorBz1
import Derived.Laws.IdiomStrings
import Derived.Laws.BytesArg
import Derived.Lib.SplitLaws
namespace Go.Proofs.YtkjcgkfejdogbaaGreatDoor
open Go.RowKit
def cmT (c d:UInt8) : Option (Int×Nat):=if c=61 then (if d=61 then some (1,2) else none) else if c=33 then (if d=61 then some (2,2) else none)
 else if c=60 then (if d=61 then some (4,2) else some (3,1)) else if c=62 then (if d=61 then some (6,2) else some (5,1)) else none
theorem cmT_le {c d:UInt8} {p:Int×Nat} (hm:cmT c d=some p) : p.2≤2:=by
 unfold cmT at hm
 repeat' split at hm
 all_goals (cases hm <;> decide)
theorem cmT_one {c d:UInt8} {p:Int×Nat} (hx:¬ d=61) (hm:cmT c d=some p) : p.2=1:=by
 unfold cmT at hm
 rw[if_neg hx,if_neg hx,if_neg hx,if_neg hx] at hm
 repeat' split at hm
 all_goals (cases hm <;> rfl)
theorem pCmp_two (c d:UInt8) (r:Bs) : pCmp (c :: d :: r)=(cmT c d).map fun p=>(p.1,(c :: d :: r).drop p.2):=by
 unfold pCmp cmT
 simp only
 repeat' split
 all_goals rfl
def minO (a b:Option Nat) : Option Nat:=match a,b with
 | none,b=>b
 | a,none=>a
 | some x,some y=>some (if y < x then y else x)
def fCmp (s:Bs) : Option Nat:=minO (minO (minO (fT 61 [61] 0 0 s) (fT 33 [61] 0 0 s)) (fT 60 [] 0 0 s)) (fT 62 [] 0 0 s)
def cmO (n:Int) : PFOp:=⟨9,n,⟨#[]⟩,false,[]⟩
def sTest (s:Bs) : Option (List PFOp):=match fCmp s with
 | none=>(sRef s).map fun x=>[opR' 8 x]
 | some c=>match pCmp (s.drop c) with
  | none=>none
  | some (n,u)=>match sOpd (s.take c),sOpd u with
   | some a,some b=>some [a,b,cmO n]
   | _,_=>none
def pTest (l:Bs) : Option (List PFOp×Bs):=match pOpd l with
 | none=>none
 | some (a,t)=>match pCmp t with
  | some (n,u)=>match pOpd u with
   | none=>none
   | some (b,v)=>some ([a,b,cmO n],v)
  | none=>if a.k=6 then some ([{ a with k:=8 }],t) else none
def isEnd (c:UInt8) : Bool:=c == 38 || c == 124 || c == 41 || c == 93 || c == 44
def EndT (t:Bs) : Prop:=∀ c r,t=c :: r→isEnd c=true
theorem end_ch {c:UInt8} (h:isEnd c=true) : isStop c=false∧isNm c=false∧isCm c=false:=by
 unfold isEnd at h
 simp only[Bool.or_eq_true,beq_iff_eq] at h
 rcases h with (((rfl | rfl) | rfl) | rfl) | rfl <;> exact⟨by decide,by decide,by decide⟩
theorem EndT.ref {t:Bs} (h:EndT t) : RefEnd t:=fun c r e=>⟨(end_ch (h c r e)).1,(end_ch (h c r e)).2.1⟩
theorem EndT.cmp {t:Bs} (h:EndT t) : pCmp t=none:=pCmp_no fun c r e=>(end_ch (h c r e)).2.2
theorem cm_ch {c:UInt8} (h:isCm c=true) : isStop c=false∧isNm c=false∧isBr c=false∧opC c=false:=by
 unfold isCm at h
 simp only[Bool.or_eq_true,beq_iff_eq] at h
 rcases h with ((rfl | rfl) | rfl) | rfl <;> exact⟨by decide,by decide,by decide,by decide⟩
theorem sOpd_ne {u:Bs} {b:PFOp} (h:sOpd u=some b) : u≠[]:=by
 rintro rfl
 have:sOpd []=none:=by
  unfold sOpd
  rw[show sInt []=none from rfl,show sStr []=none from rfl]
  simp only
  rw[if_neg (by decide),if_neg (by decide),if_neg (by decide),if_neg (by rintro⟨h,_⟩; cases h)]
  rfl
 rw[this] at h; cases h
theorem pCmp_ext {l u:Bs} {n:Int} (h:pCmp l=some (n,u)) (hu:u≠[]) (t:Bs) : pCmp (l++t)=some (n,u++t):=by
 obtain⟨c,r,rfl,hc,hl,g,hg⟩:=pCmp_hd h
 cases r with
 | nil=>
  exfalso
  cases u with
  | nil=>exact hu rfl
  | cons a b=>simp at hl
 | cons d q=>
  rw[pCmp_two] at h
  rw[List.cons_append,List.cons_append,pCmp_two]
  cases hm:cmT c d with
  | none=>rw[hm] at h; cases h
  | some p=>
   rw[hm] at h
   injection h with h
   injection h with h1 h2
   subst h1; subst h2
   have hp:p.2≤2:=cmT_le hm
   show some (p.1,(c :: d :: (q++t)).drop p.2)=some (p.1,(c :: d :: q).drop p.2++t)
   rw[← List.cons_append,← List.cons_append,List.drop_append_of_le_length (by simp; omega)]
theorem pCmp_cut {g s t:Bs} {n:Int} (h:pCmp (g++(s++t))=some (n,s++t)) (hs:s≠[]) : pCmp (g++s)=some (n,s):=by
 obtain⟨c,r,e,hc,hl,-⟩:=pCmp_hd h
 cases s with
 | nil=>exact absurd rfl hs
 | cons x y=>
  cases g with
  | nil=>simp at hl
  | cons a g'=>
   have key:∃ d q,a :: g'++(x :: y)=a :: d :: q∧a :: g'++(x :: y++t)=a :: d :: (q++t):=by
    cases g' with
    | nil=>exact⟨x,y,rfl,rfl⟩
    | cons b z=>exact⟨b,z++x :: y,rfl,by simp⟩
   obtain⟨d,q,e1,e2⟩:=key
   rw[e2,pCmp_two] at h
   rw[e1,pCmp_two]
   cases hm:cmT a d with
   | none=>rw[hm] at h; cases h
   | some p=>
    rw[hm] at h
    injection h with h
    injection h with h1 h2
    subst h1
    have hp:p.2≤2:=cmT_le hm
    show some (p.1,(a :: d :: q).drop p.2)=some (p.1,x :: y)
    congr 2
    rw[← List.cons_append,← List.cons_append,List.drop_append_of_le_length (by simp; omega)] at h2
    exact List.append_cancel_right h2
theorem test_ext {s:Bs} {ops:List PFOp} (h:sTest s=some ops) {t:Bs} (ht:EndT t) : pTest (s++t)=some (ops,t):=by
 unfold sTest at h
 unfold pTest
 cases hc:fCmp s with
 | none=>
  rw[hc] at h
  simp only at h
  cases hr:sRef s with
  | none=>rw[hr] at h; cases h
  | some x=>
   rw[hr] at h
   injection h with h
   subst h
   have h1:=pRef_ext hr ht.ref
   have ho:pOpd (s++t)=some (opR' 6 x,t):=by
    cases s with
    | nil=>cases hr
    | cons c r=>
     have hc:c=36∨c=64:=by
      have h5:(if c=36∨c=64 then (sSteps (r.length+1) r).map (fun p=>(decide (c=36),p)) else none)=some x:=hr
      split at h5
      ·assumption
      ·cases h5
     rw[List.cons_append] at h1 ⊢
     rw[pOpd_con,if_neg (by rintro rfl; revert hc; decide),if_neg (by rintro rfl; revert hc; decide),if_neg (by rintro rfl; revert hc; decide),if_neg (by rintro rfl; revert hc; decide),if_neg (by rintro rfl; revert hc; decide),if_pos (by rcases hc with h | h; exact .inr h; exact .inl h),h1]
     rfl
   rw[ho]
   simp only
   rw[ht.cmp]
   simp only
   rw[if_pos (show (opR' 6 x).k=6 from rfl)]; rfl
 | some c=>
  rw[hc] at h
  simp only at h
  cases hp:pCmp (s.drop c) with
  | none=>rw[hp] at h; cases h
  | some q=>
   obtain⟨n,u⟩:=q
   rw[hp] at h
   simp only at h
   cases ha:sOpd (s.take c) with
   | none=>rw[ha] at h; cases h
   | some a=>
    cases hb:sOpd u with
    | none=>rw[ha,hb] at h; cases h
    | some b=>
     rw[ha,hb] at h
     injection h with h
     subst h
     have e:s++t=s.take c++(s.drop c++t):=by rw[← List.append_assoc,List.take_append_drop]
     obtain⟨x,y,hxy,hx,-⟩:=pCmp_hd hp
     rw[e,pOpd_ext ha (t:=s.drop c++t) (by
      intro p q hpq
      rw[hxy,List.cons_append] at hpq
      injection hpq with h1 _
      subst h1
      exact⟨(cm_ch hx).1,(cm_ch hx).2.1⟩)]
     simp only
     rw[pCmp_ext hp (sOpd_ne hb) t]
     simp only
     rw[pOpd_ext hb ht.ref]
def tsC (c:UInt8) : Bool:=opC c || isCm c
theorem minO_at {a b:Option Nat} {k:Nat} (ha:a=some k∨((∀ x,a=some x→k≤x)∧b=some k)) (hb:∀ y,b=some y→k≤y) : minO a b=some k:=by
 rcases ha with rfl | ⟨ha,rfl⟩
 ·cases b with
  | none=>rfl
  | some y=>
   have:=hb y rfl
   show some (if y < k then y else k)=some k
   rw[if_neg (by omega)]
 ·cases a with
  | none=>rfl
  | some x=>
   have:=ha x rfl
   show some (if k < x then k else x)=some k
   split
   ·rfl
   ·congr 1; omega
theorem minO_le {a b:Option Nat} {k:Nat} (ha:∀ x,a=some x→k≤x) (hb:∀ y,b=some y→k≤y) : ∀ z,minO a b=some z→k≤z:=by
 intro z hz
 cases a with
 | none=>exact hb z hz
 | some x=>
  cases b with
  | none=>exact ha z hz
  | some y=>
   have h1:=ha x rfl
   have h2:=hb y rfl
   have hz':some (if y < x then y else x)=some z:=hz
   injection hz' with hz'
   split at hz' <;> omega
theorem fCmp_at {s1 g s2:Bs} (h1:Cl opC s1) {n:Int} (hp:pCmp (g++s2)=some (n,s2)) : fCmp (s1++(g++s2))=some s1.length:=by
 have key:∀ (w:UInt8) (ws:Bs),isCm w=true→fT w ws 0 0 (s1++(g++s2))=fT w ws 0 s1.length (g++s2):=fun w ws hw=>by
  have:=fT_cl (w:=w) (ws:=ws) (cm_ch hw).2.2.1 h1 0 0 (g++s2) (by omega) (fun _=>(cm_ch hw).2.2.2)
  rw[this,Nat.zero_add]
 have hle:∀ (w:UInt8) (ws:Bs) (x:Nat),fT w ws 0 s1.length (g++s2)=some x→s1.length≤x:=fun w ws x h=>(fT_at _ _ _ _ h).1
 obtain⟨c,r,e,hc,-⟩:=pCmp_hd hp
 have hit:∀ (w:UInt8) (ws:Bs),(w :: ws) <+: (g++s2)→fT w ws 0 s1.length (g++s2)=some s1.length:=fun w ws h=>by
  rw[e] at h ⊢
  rw[fT,if_pos ⟨rfl,List.isPrefixOf_iff_prefix.2 h⟩]
 unfold fCmp
 rw[key 61 [61] (by decide),key 33 [61] (by decide),key 60 [] (by decide),key 62 [] (by decide)]
 have l1:=hle 61 [61]
 have l2:=hle 33 [61]
 have l3:=hle 60 []
 have l4:=hle 62 []
 have hc':=hc
 unfold isCm at hc
 simp only[Bool.or_eq_true,beq_iff_eq] at hc
 rcases hc with ((rfl | rfl) | rfl) | rfl
 ·have hpre:([61,61] : Bs) <+: g++s2:=by
   rw[e] at hp ⊢
   cases r with
   | nil=>cases hp
   | cons d q=>
    rw[pCmp_two] at hp
    cases hd:decide (d=61) with
    | true=>simp at hd; subst hd; exact⟨q,rfl⟩
    | false=>
     simp at hd
     unfold cmT at hp
     rw[if_pos rfl,if_neg hd] at hp
     cases hp
  have h0:=hit 61 [61] hpre
  exact minO_at (.inl (minO_at (.inl (minO_at (.inl h0) l2)) l3)) l4
 ·have hpre:([33,61] : Bs) <+: g++s2:=by
   rw[e] at hp ⊢
   cases r with
   | nil=>cases hp
   | cons d q=>
    rw[pCmp_two] at hp
    cases hd:decide (d=61) with
    | true=>simp at hd; subst hd; exact⟨q,rfl⟩
    | false=>
     simp at hd
     unfold cmT at hp
     rw[if_neg (by decide),if_pos rfl,if_neg hd] at hp
     cases hp
  have h0:=hit 33 [61] hpre
  exact minO_at (.inl (minO_at (.inl (minO_at (.inr ⟨l1,h0⟩) l2)) l3)) l4
 ·have h0:=hit 60 [] (by rw[e]; exact⟨r,rfl⟩)
  exact minO_at (.inl (minO_at (.inr ⟨minO_le l1 l2,h0⟩) l3)) l4
 ·have h0:=hit 62 [] (by rw[e]; exact⟨r,rfl⟩)
  exact minO_at (.inr ⟨minO_le (minO_le l1 l2) l3,h0⟩) l4
theorem fCmp_no {s:Bs} (h:Cl opC s) : fCmp s=none:=by
 have key:∀ (w:UInt8) (ws:Bs),isCm w=true→fT w ws 0 0 s=none:=fun w ws hw=>by
  have:=fT_cl (w:=w) (ws:=ws) (cm_ch hw).2.2.1 h 0 0 [] (by omega) (fun _=>(cm_ch hw).2.2.2)
  rw[List.append_nil] at this
  rw[this,fT]
 unfold fCmp
 rw[key 61 [61] (by decide),key 33 [61] (by decide),key 60 [] (by decide),key 62 [] (by decide)]
 rfl
theorem test_some {l t:Bs} {ops:List PFOp} (h:pTest l=some (ops,t)) : ∃ s,l=s++t∧sTest s=some ops∧Cl tsC s∧s≠[]:=by
 unfold pTest at h
 cases ha:pOpd l with
 | none=>rw[ha] at h; cases h
 | some q=>
  obtain⟨a,t1⟩:=q
  rw[ha] at h
  simp only at h
  obtain⟨s1,e1,hs1,hc1⟩:=pOpd_some ha
  subst e1
  cases hp:pCmp t1 with
  | some q2=>
   obtain⟨n,t2⟩:=q2
   rw[hp] at h
   simp only at h
   cases hb:pOpd t2 with
   | none=>rw[hb] at h; cases h
   | some q3=>
    obtain⟨b,v⟩:=q3
    rw[hb] at h
    injection h with h
    injection h with h1 h2
    subst h1; subst h2
    obtain⟨s2,e2,hs2,hc2⟩:=pOpd_some hb
    subst e2
    obtain⟨c,r,e3,hcm,-,g,hg⟩:=pCmp_hd hp
    subst hg
    have hcut:=pCmp_cut hp (sOpd_ne hs2)
    have hgc:Cl tsC g:=by
     have hg2:g.all (fun c=>tsC c && !isBr c)=true:=by
      rw[List.all_eq_true]
      intro d hd
      have:isCm d=true:=by
       have hlen:g.length≤2:=by
        cases g with
        | nil=>simp
        | cons x y=>
         cases y with
         | nil=>simp
         | cons x' y'=>
          rw[List.cons_append,List.cons_append,pCmp_two] at hp
          cases hm:cmT x x' with
          | none=>rw[hm] at hp; cases hp
          | some p=>
           rw[hm] at hp
           injection hp with hp
           injection hp with _ hp
           have hp2:p.2≤2:=cmT_le hm
           have:=congrArg List.length hp
           simp only[List.length_drop,List.length_cons,List.length_append] at this
           simp only[List.length_cons]
           omega
       match g,hlen,hd,hp,e3 with
       | [x],_,hd,hp,e3=>
        simp at hd
        subst hd
        injection e3 with e3 _
        subst e3
        exact hcm
       | [x,x'],_,hd,hp,e3=>
        rw[List.cons_append,List.cons_append,pCmp_two] at hp
        injection e3 with e3 _
        subst e3
        simp at hd
        rcases hd with rfl | rfl
        ·exact hcm
        ·cases hx:decide (d=61) with
         | true=>simp at hx; subst hx; decide
         | false=>
          simp at hx
          exfalso
          cases hm:cmT x d with
          | none=>rw[hm] at hp; cases hp
          | some p=>
           rw[hm] at hp
           injection hp with hp
           injection hp with _ hp
           have hp1:p.2=1:=cmT_one hx hm
           rw[hp1] at hp
           have:=congrArg List.length hp
           simp at this
      unfold tsC
      rw[this,(cm_ch this).2.2.1]
      simp
     exact Cl.all hg2
    refine⟨s1++(g++s2),by simp,?_,?_,?_⟩
    ·unfold sTest
     rw[fCmp_at hc1 hcut]
     simp only
     rw[List.drop_left,hcut]
     simp only
     rw[List.take_left,hs1,hs2]
    ·exact (hc1.mono fun c h=>by unfold tsC; rw[h]; rfl).app (hgc.app (hc2.mono fun c h=>by unfold tsC; rw[h]; rfl))
    ·have:=sOpd_ne hs1
     intro e
     exact this (List.append_eq_nil_iff.1 e).1
  | none=>
   rw[hp] at h
   simp only at h
   split at h
   ·rename_i hk
    injection h with h
    injection h with h1 h2
    subst h1; subst h2
    refine⟨s1,rfl,?_,hc1.mono fun c h=>by unfold tsC; rw[h]; rfl,sOpd_ne hs1⟩
    unfold sTest
    rw[fCmp_no hc1]
    simp only
    -- a value is a ref
    unfold sOpd at hs1
    cases hi:sInt s1 with
    | some n=>rw[hi] at hs1; injection hs1 with hs1; rw[← hs1] at hk; exact absurd hk (show ¬ (1:Int)=6 by decide)
    | none=>
     rw[hi] at hs1
     simp only at hs1
     cases hst:sStr s1 with
     | some v=>rw[hst] at hs1; injection hs1 with hs1; rw[← hs1] at hk; exact absurd hk (show ¬ (2:Int)=6 by decide)
     | none=>
      rw[hst] at hs1
      simp only at hs1
      split at hs1
      ·injection hs1 with hs1; rw[← hs1] at hk; exact absurd hk (by decide)
      ·split at hs1
       ·injection hs1 with hs1; rw[← hs1] at hk; exact absurd hk (by decide)
       ·split at hs1
        ·injection hs1 with hs1; rw[← hs1] at hk; exact absurd hk (by decide)
        ·split at hs1
         ·cases hr:sRef ((s1.drop 7).take (s1.length - 8)) with
          | none=>rw[hr] at hs1; cases hs1
          | some x=>rw[hr] at hs1; injection hs1 with hs1; rw[← hs1] at hk; exact absurd hk (show ¬ (7:Int)=6 by decide)
         ·cases hr:sRef s1 with
          | none=>rw[hr] at hs1; cases hs1
          | some x=>
           rw[hr] at hs1
           injection hs1 with hs1
           subst hs1
           rfl
   ·cases h
abbrev XC:=List PFOp×Nat
def joinX (k:Int) (x y:XC) : XC:=(x.1++y.1++[opK k],max x.2 y.2)
def pTail (f:Bs→Option (XC×Bs)) (c:UInt8) (k:Int) : Nat→XC→Bs→Option (XC×Bs)
 | 0,_,_=>none
 | m+1,x,t=>match t with
  | []=>some (x,[])
  | a :: r=>if a=c then (match r with
    | []=>none
    | b :: q=>if b=c then (match f q with
      | none=>none
      | some (y,u)=>pTail f c k m (joinX k x y) u) else none)
   else some (x,t)
def pMany (f:Bs→Option (XC×Bs)) (c:UInt8) (k:Int) (l:Bs) : Option (XC×Bs):=match f l with
 | none=>none
 | some (x,t)=>pTail f c k (t.length+1) x t
def sMore (g:Bs→Option XC) (k:Int) : XC→List Bs→Option XC
 | x,[]=>some x
 | x,p :: r=>match g p with
  | none=>none
  | some y=>sMore g k (joinX k x y) r
def sJoin (g:Bs→Option XC) (k:Int) (ps:List Bs) : Option XC:=match ps with
 | []=>none
 | p :: r=>match g p with
  | none=>none
  | some x=>sMore g k x r
theorem pTail_nil (f:Bs→Option (XC×Bs)) (c:UInt8) (k:Int) (m:Nat) (x:XC) : pTail f c k (m+1) x []=some (x,[]):=by rw[pTail]
theorem pTail_con (f : Bs → Option (XC × Bs)) (c : UInt8) (k : Int) (m : Nat) (x : XC) (a : UInt8) (r : Bs) : pTail f c k (m + 1) x (a :: r) = (if a = c then (match r with
        | []=>none
        | b :: q=>if b=c then (match f q with
          | none=>none
          | some (y,u)=>pTail f c k m (joinX k x y) u) else none)
   else some (x,a :: r)):=by rw[pTail.eq_def] <;> rfl
structure Fit (f:Bs→Option (XC×Bs)) (g:Bs→Option XC) (E P:UInt8→Bool) : Prop where
 ext:∀ {s:Bs} {x:XC},g s=some x→∀ t:Bs,(∀ c r,t=c :: r→E c=true)→f (s++t)=some (x,t)
 got:∀ {l t:Bs} {x:XC},f l=some (x,t)→∃ s,l=s++t∧g s=some x∧Cl P s
def cat2 (c:UInt8) (ps:List Bs) : Bs:=ps.flatMap fun p=>c :: c :: p
theorem jn_cat (c:UInt8) : ∀ (r:List Bs) (p:Bs),jn (c :: [c]) (p :: r)=p++cat2 c r
 | [],p=>by simp[jn,cat2]
 | q :: r,p=>by
  rw[jn,jn_cat c r q]
  unfold cat2
  simp
section
variable {f:Bs→Option (XC×Bs)} {g:Bs→Option XC} {E P:UInt8→Bool} {c:UInt8} {k:Int}
theorem tail_ext (h:Fit f g E P) (hc:E c=true) : ∀ (ps:List Bs) (x y:XC),sMore g k x ps=some y→∀ t:Bs,(∀ a r,t=a :: r→E a=true∧a≠c)→∀ m,ps.length < m→pTail f c k m x (cat2 c ps++t)=some (y,t)
 | [],x,y,hs,t,ht,m,hm=>by
  rw[sMore] at hs
  injection hs with hs
  subst hs
  obtain⟨j,rfl⟩ : ∃ j,m=j+1:=⟨m - 1,by simp at hm; omega⟩
  show pTail f c k (j+1) x t=_
  cases t with
  | nil=>exact pTail_nil f c k j x
  | cons a r=>rw[pTail_con,if_neg (ht a r rfl).2]
 | p :: r,x,y,hs,t,ht,m,hm=>by
  rw[sMore] at hs
  obtain⟨j,rfl⟩ : ∃ j,m=j+1:=⟨m - 1,by simp at hm; omega⟩
  cases hg:g p with
  | none=>rw[hg] at hs; cases hs
  | some z=>
   rw[hg] at hs
   simp only at hs
   have e:cat2 c (p :: r)++t=c :: c :: (p++(cat2 c r++t)):=by simp[cat2]
   rw[e,pTail_con,if_pos rfl]
   simp only
   rw[if_pos (by trivial)]
   have hf:=h.ext hg (cat2 c r++t) (by
    intro a b hab
    cases r with
    | nil=>exact (ht a b hab).1
    | cons q r'=>
     have:cat2 c (q :: r')++t=c :: (c :: (q++(cat2 c r'++t))):=by simp[cat2]
     rw[this] at hab
     injection hab with h1 _
     rw[← h1]; exact hc)
   rw[hf]
   simp only
   exact tail_ext h hc r _ y hs t ht j (by simp at hm; omega)
theorem cat2_len (c:UInt8) : ∀ ps:List Bs,ps.length≤(cat2 c ps).length
 | []=>by simp
 | p :: r=>by
  have:=cat2_len c r
  have e:cat2 c (p :: r)=c :: c :: (p++cat2 c r):=by simp[cat2]
  rw[e]; simp; omega
theorem tail_some (h:Fit f g E P) : ∀ (m:Nat) (x y:XC) (t0 t:Bs),pTail f c k m x t0=some (y,t)→∃ qs,t0=cat2 c qs++t∧sMore g k x qs=some y∧∀ q∈qs,Cl P q
 | 0,x,y,t0,t,hs=>by rw[pTail] at hs; cases hs
 | m+1,x,y,[],t,hs=>by
  rw[pTail_nil] at hs
  injection hs with hs
  injection hs with h1 h2
  subst h1; subst h2
  exact⟨[],rfl,rfl,fun q hq=>by cases hq⟩
 | m+1,x,y,a :: r,t,hs=>by
  rw[pTail_con] at hs
  split at hs
  ·rename_i ha
   subst a
   match r,hs with
   | [],hs=>cases hs
   | b :: q,hs=>
    simp only at hs
    split at hs
    ·rename_i hb
     subst b
     cases hf:f q with
     | none=>rw[hf] at hs; cases hs
     | some z=>
      obtain⟨z,u⟩:=z
      rw[hf] at hs
      simp only at hs
      obtain⟨p,e,hg,hcl⟩:=h.got hf
      obtain⟨qs,e2,hm,hq⟩:=tail_some h m _ y u t hs
      subst e2; subst e
      refine⟨p :: qs,by simp[cat2],?_,fun q hq2=>?_⟩
      ·rw[sMore,hg]; exact hm
      ·rcases List.mem_cons.1 hq2 with rfl | hq2
       ·exact hcl
       ·exact hq q hq2
    ·cases hs
  ·injection hs with hs
   injection hs with h1 h2
   subst h1; subst h2
   exact⟨[],rfl,rfl,fun q hq=>by cases hq⟩
theorem spl_cat (hw:isBr c=false) (hP:P c=false) : ∀ (qs:List Bs) (p cur:Bs),Cl P p→(∀ q∈qs,Cl P q)→spl c [c] 0 cur (p++cat2 c qs)=(cur++p) :: qs
 | [],p,cur,hp,_=>by
  show spl c [c] 0 cur (p++[])=_
  rw[spl_cl hw hp 0 cur [] (by omega) (fun _=>hP),spl_nil]
 | q :: qs,p,cur,hp,hq=>by
  have e:cat2 c (q :: qs)=c :: ([c]++(q++cat2 c qs)):=by simp[cat2]
  rw[e,spl_cl hw hp 0 cur _ (by omega) (fun _=>hP),spl_hit,spl_cat hw hP qs q [] (hq q List.mem_cons_self) (fun x hx=>hq x (List.mem_cons_of_mem _ hx)),List.nil_append]
theorem Fit.many (h:Fit f g E P) (hc:E c=true) (hw:isBr c=false) (hP:P c=false) {E' P':UInt8→Bool} (hE':∀ a,E' a=true→E a=true∧a≠c) (hP':∀ a,P a=true∨a=c→P' a=true) :
  Fit (pMany f c k) (fun s=>sJoin g k (spl c [c] 0 [] s)) E' P':=by
 refine⟨fun {s x} hs t ht=>?_,fun {l t x} hl=>?_⟩
 ·obtain⟨h1,h2⟩:=spl_jn c [c] s 0 []
  rw[List.nil_append] at h2
  cases hps:spl c [c] 0 [] s with
  | nil=>exact absurd hps h1
  | cons p r=>
   have hs':sJoin g k (spl c [c] 0 [] s)=some x:=hs
   rw[hps] at hs' h2
   unfold sJoin at hs'
   simp only at hs'
   rw[jn_cat] at h2
   cases hg:g p with
   | none=>rw[hg] at hs'; cases hs'
   | some z=>
    rw[hg] at hs'
    simp only at hs'
    unfold pMany
    have ht2:∀ a r,t=a :: r→E a=true∧a≠c:=fun a r e=>hE' a (ht a r e)
    have hf:=h.ext hg (cat2 c r++t) (by
     intro a b hab
     cases r with
     | nil=>exact (ht2 a b hab).1
     | cons q r'=>
      have:cat2 c (q :: r')++t=c :: (c :: (q++(cat2 c r'++t))):=by simp[cat2]
      rw[this] at hab
      injection hab with h1 _
      rw[← h1]; exact hc)
    rw[← h2,List.append_assoc,hf]
    simp only
    exact tail_ext h hc r z x hs' t ht2 _ (by rw[List.length_append]; have:=cat2_len c r; omega)
 ·unfold pMany at hl
  cases hf:f l with
  | none=>rw[hf] at hl; cases hl
  | some z=>
   obtain⟨z,u⟩:=z
   rw[hf] at hl
   simp only at hl
   obtain⟨p,e,hg,hcl⟩:=h.got hf
   obtain⟨qs,e2,hm,hq⟩:=tail_some h _ _ _ _ _ hl
   subst e2; subst e
   refine⟨p++cat2 c qs,by simp,?_,?_⟩
   ·show sJoin g k (spl c [c] 0 [] (p++cat2 c qs))=some x
    rw[spl_cat hw hP qs p [] hcl hq,List.nil_append]
    unfold sJoin
    simp only
    rw[hg]
    exact hm
   ·have hmono:∀ {q:Bs},Cl P q→Cl P' q:=fun h=>h.mono fun a ha=>hP' a (.inl ha)
    have hcat:∀ qs:List Bs,(∀ q∈qs,Cl P q)→Cl P' (cat2 c qs):=by
     intro qs
     induction qs with
     | nil=>intro _; exact .nil
     | cons q r ih=>
      intro hq
      have e:cat2 c (q :: r)=c :: c :: (q++cat2 c r):=by simp[cat2]
      rw[e]
      exact .chr hw (hP' c (.inr rfl)) (.chr hw (hP' c (.inr rfl)) ((hmono (hq q List.mem_cons_self)).app (ih fun x hx=>hq x (List.mem_cons_of_mem _ hx))))
    exact (hmono hcl).app (hcat qs hq)
end
def pPr:Nat→Bs→Option (XC×Bs)
 | 0,_=>none
 | n+1,l=>match l with
  | []=>(pTest l).map fun p=>((p.1,0),p.2)
  | c :: r=>if c=33 then (pPr n r).map fun p=>((p.1.1++[opK 12],p.1.2+1),p.2)
   else if c=40 then (match pMany (pMany (pPr n) 38 10) 124 11 r with
    | none=>none
    | some (x,t)=>match t with
     | []=>none
     | d :: u=>if d=41 then some ((x.1,x.2+1),u) else none)
   else (pTest l).map fun p=>((p.1,0),p.2)
def pCj (n:Nat) : Bs→Option (XC×Bs):=pMany (pPr n) 38 10
def pCd (n:Nat) : Bs→Option (XC×Bs):=pMany (pCj n) 124 11
def sCdOf (g:Bs→Option XC) (s:Bs) : Option XC:=sJoin (fun q=>sJoin g 10 (spl 38 [38] 0 [] q)) 11 (spl 124 [124] 0 [] s)
def sPr:Nat→Bs→Option XC
 | 0,_=>none
 | n+1,s=>match s with
  | []=>(sTest s).map fun o=>(o,0)
  | c :: r=>if c=33 then (sPr n r).map fun p=>(p.1++[opK 12],p.2+1)
   else if c=40∧clo 0 0 s=some s.length∧r.getLast?=some 41 then (sCdOf (sPr n) r.dropLast).map fun p=>(p.1,p.2+1)
   else (sTest s).map fun o=>(o,0)
theorem pOpd_no {c:UInt8} (r:Bs) (h:c=33∨c=40) : pOpd (c :: r)=none:=by
 rcases h with rfl | rfl
 ·rw[pOpd_con,if_neg (by decide),if_neg (by decide),if_neg (by decide),if_neg (by decide),if_neg (by decide),if_neg (by decide)]
  rw[show pInt (33 :: r)=none from rfl]; rfl
 ·rw[pOpd_con,if_neg (by decide),if_neg (by decide),if_neg (by decide),if_neg (by decide),if_neg (by decide),if_neg (by decide)]
  rw[show pInt (40 :: r)=none from rfl]; rfl
theorem pTest_no {c:UInt8} (r:Bs) (h:c=33∨c=40) : pTest (c :: r)=none:=by
 unfold pTest; rw[pOpd_no r h]
theorem sTest_hd {c:UInt8} {r:Bs} {o:List PFOp} (h:sTest (c :: r)=some o) : c≠33∧c≠40:=by
 have h1:=test_ext h (t:=[]) (fun _ _ e=>by cases e)
 rw[List.append_nil] at h1
 constructor
 ·rintro rfl; rw[pTest_no r (.inl rfl)] at h1; cases h1
 ·rintro rfl; rw[pTest_no r (.inr rfl)] at h1; cases h1
theorem sTest_nil:sTest []=none:=by
 cases h:sTest [] with
 | none=>rfl
 | some o=>
  have h1:=test_ext h (t:=[]) (fun _ _ e=>by cases e)
  cases h1
def E1 (c:UInt8) : Bool:=c == 124 || c == 41 || c == 93 || c == 44
def E2 (c:UInt8) : Bool:=c == 41 || c == 93 || c == 44
def P1 (c:UInt8) : Bool:=tsC c || c == 38
def P2 (c:UInt8) : Bool:=P1 c || c == 124
theorem Fit.cj {f:Bs→Option (XC×Bs)} {g:Bs→Option XC} (h:Fit f g isEnd tsC) : Fit (pMany f 38 10) (fun s=>sJoin g 10 (spl 38 [38] 0 [] s)) E1 P1:=
 h.many (by decide) (by decide) (by decide) (fun a ha=>by
  unfold E1 at ha
  simp only[Bool.or_eq_true,beq_iff_eq] at ha
  rcases ha with ((rfl | rfl) | rfl) | rfl <;> exact⟨by decide,by decide⟩) (fun a ha=>by
  unfold P1
  rcases ha with ha | rfl
  ·rw[ha]; rfl
  ·decide)
theorem Fit.cd {f:Bs→Option (XC×Bs)} {g:Bs→Option XC} (h:Fit f g E1 P1) : Fit (pMany f 124 11) (fun s=>sJoin g 11 (spl 124 [124] 0 [] s)) E2 P2:=
 h.many (by decide) (by decide) (by decide) (fun a ha=>by
  unfold E2 at ha
  simp only[Bool.or_eq_true,beq_iff_eq] at ha
  rcases ha with (rfl | rfl) | rfl <;> exact⟨by decide,by decide⟩) (fun a ha=>by
  unfold P2
  rcases ha with ha | rfl
  ·rw[ha]; rfl
  ·decide)
theorem pPr_nil (n:Nat) : pPr (n+1) []=none:=rfl
theorem pPr_con (n:Nat) (c:UInt8) (r:Bs) : pPr (n+1) (c :: r)=(if c=33 then (pPr n r).map (fun p=>((p.1.1++[opK 12],p.1.2+1),p.2))
   else if c=40 then (match pMany (pMany (pPr n) 38 10) 124 11 r with
    | none=>none
    | some (x,t)=>match t with
     | []=>none
     | d :: u=>if d=41 then some ((x.1,x.2+1),u) else none)
   else (pTest (c :: r)).map fun p=>((p.1,0),p.2)):=by rw[pPr.eq_def] <;> rfl
theorem sPr_nil (n:Nat) : sPr (n+1) []=none:=by
 rw[sPr.eq_def]
 show (sTest []).map _=none
 rw[sTest_nil]; rfl
theorem sPr_con (n:Nat) (c:UInt8) (r:Bs) : sPr (n+1) (c :: r)=(if c=33 then (sPr n r).map (fun p=>(p.1++[opK 12],p.2+1))
   else if c=40∧clo 0 0 (c :: r)=some (c :: r).length∧r.getLast?=some 41 then (sCdOf (sPr n) r.dropLast).map (fun p=>(p.1,p.2+1))
   else (sTest (c :: r)).map fun o=>(o,0)):=by rw[sPr.eq_def]
theorem fit_pr:∀ n:Nat,Fit (pPr n) (sPr n) isEnd tsC
 | 0=>by
  refine⟨fun {s x} h t ht=>?_,fun {l t x} h=>?_⟩
  ·cases h
  ·cases h
 | n+1=>by
  have ih:=fit_pr n
  have cd:=ih.cj.cd
  refine⟨fun {s x} hs t ht=>?_,fun {l t x} hl=>?_⟩
  ·cases s with
   | nil=>rw[sPr_nil] at hs; cases hs
   | cons c r=>
    rw[sPr_con] at hs
    rw[List.cons_append,pPr_con]
    split at hs
    ·rename_i hc
     rw[if_pos hc]
     cases hg:sPr n r with
     | none=>rw[hg] at hs; cases hs
     | some p=>
      rw[hg] at hs
      injection hs with hs
      rw[ih.ext hg t ht]
      subst hs; rfl
    ·rename_i hc
     rw[if_neg hc]
     split at hs
     ·rename_i hp
      rw[if_pos hp.1]
      cases hg:sCdOf (sPr n) r.dropLast with
      | none=>rw[hg] at hs; cases hs
      | some p=>
       rw[hg] at hs
       injection hs with hs
       have hr:r=r.dropLast++[41]:=by
        have hne:r≠[]:=by rintro rfl; cases hp.2.2
        have h1:=List.dropLast_concat_getLast hne
        rw[List.getLast?_eq_some_getLast hne] at hp
        injection hp.2.2 with h2
        rw[h2] at h1
        exact h1.symm
       have h1:=cd.ext (s:=r.dropLast) (x:=p) hg (41 :: t) (fun a b e=>by injection e with e _; rw[← e]; decide)
       have e:r++t=r.dropLast++41 :: t:=by
        conv=>lhs; rw[hr]
        simp
       rw[e,h1]
       subst hs
       simp only
       rw[if_pos (by trivial)]
     ·cases hg:sTest (c :: r) with
      | none=>rw[hg] at hs; cases hs
      | some o=>
       rw[hg] at hs
       injection hs with hs
       rw[if_neg (sTest_hd hg).2,← List.cons_append,test_ext hg ht]
       subst hs; rfl
  ·cases l with
   | nil=>rw[pPr_nil] at hl; cases hl
   | cons c r=>
    rw[pPr_con] at hl
    split at hl
    ·rename_i hc
     subst hc
     cases hg:pPr n r with
     | none=>rw[hg] at hl; cases hl
     | some p=>
      rw[hg] at hl
      injection hl with hl
      obtain⟨p,u⟩:=p
      injection hl with h1 h2
      have h2':u=t:=h2
      subst h2'
      obtain⟨s,e,hs,hcl⟩:=ih.got hg
      refine⟨33 :: s,by rw[e]; rfl,?_,.chr (by decide) (by decide) hcl⟩
      rw[sPr_con,if_pos rfl,hs,← h1]; rfl
    ·rename_i hc
     split at hl
     ·rename_i hp
      subst hp
      cases hg:pMany (pMany (pPr n) 38 10) 124 11 r with
      | none=>rw[hg] at hl; cases hl
      | some p=>
       obtain⟨p,u⟩:=p
       rw[hg] at hl
       simp only at hl
       cases u with
       | nil=>cases hl
       | cons d v=>
        simp only at hl
        split at hl
        ·rename_i hd
         subst hd
         injection hl with hl
         injection hl with h1 h2
         subst h2
         obtain⟨s,e,hs,hcl⟩:=cd.got hg
         refine⟨40 :: (s++[41]),by rw[e]; simp,?_,.par hcl .nil⟩
         have hs':sCdOf (sPr n) s=some p:=hs
         rw[sPr_con,if_neg (by decide),if_pos ⟨rfl,by rw[clo_at hcl (.inl rfl) (.inl rfl)]; simp,by simp⟩,List.dropLast_concat,hs',← h1]; rfl
        ·cases hl
     ·rename_i hp
      cases hg:pTest (c :: r) with
      | none=>rw[hg] at hl; cases hl
      | some q=>
       obtain⟨o,u⟩:=q
       rw[hg] at hl
       injection hl with hl
       injection hl with h1 h2
       have h2':u=t:=h2
       subst h2'
       obtain⟨s,e,hs,hcl,hne⟩:=test_some hg
       refine⟨s,e,?_,hcl⟩
       cases s with
       | nil=>exact absurd rfl hne
       | cons a b=>
        have ha:c=a:=by injection e
        subst ha
        rw[sPr_con,if_neg hc,if_neg (fun h=>hp h.1),hs,← h1]; rfl
theorem fit_cd (n:Nat) : Fit (pCd n) (sCdOf (sPr n)) E2 P2:=(fit_pr n).cj.cd
def isI (c:UInt8) : Bool:=c == 45 || isDg c.toNat
theorem isI_br {c:UInt8} (h:isI c=true) : isBr c=false:=by
 unfold isI at h
 rw[Bool.or_eq_true] at h
 rcases h with h | h
 ·rw[beq_iff_eq] at h; subst h; decide
 ·cases hb:isBr c with
  | false=>rfl
  | true=>
   exfalso
   unfold isBr at hb
   simp only[Bool.or_eq_true,beq_iff_eq] at hb
   rcases hb with (((rfl | rfl) | rfl) | rfl) | rfl <;> exact absurd h (by decide)
theorem isI_no {c:UInt8} (h:isI c=true∨c=58) : c≠39∧c≠42∧c≠63:=by
 rcases h with h | rfl
 ·refine⟨?_,?_,?_⟩ <;> rintro rfl <;> exact absurd h (by decide)
 ·exact⟨by decide,by decide,by decide⟩
theorem cl_I {p:Bs} (h:p.all isI=true) : Cl isI p:=Cl.all (by
 rw[List.all_eq_true] at h ⊢
 intro c hc
 rw[h c hc,isI_br (h c hc)]; rfl)
theorem sNat_all {d:Bs} (h:sNat d=true) : d≠[]∧d.all isI=true:=by
 unfold sNat at h
 simp only[Bool.and_eq_true,decide_eq_true_eq] at h
 refine⟨by rintro rfl; exact absurd h.1.1.1 (by decide),?_⟩
 have h3:=h.1.2
 rw[List.all_eq_true] at h3 ⊢
 intro c hc
 unfold isI
 rw[h3 c hc,Bool.or_true]
theorem sInt_all {s:Bs} {n:Int} (h:sInt s=some n) : s≠[]∧s.all isI=true:=by
 cases s with
 | nil=>cases h
 | cons c r=>
  refine⟨List.cons_ne_nil _ _,?_⟩
  have h1:(if (c :: r)=[48] then some 0 else if c=45 then (if sNat r=true then some (-(digV r:Int)) else none) else (if sNat (c :: r)=true then some (digV (c :: r) : Int) else none))=some n:=h
  split at h1
  ·rename_i he; rw[he]; decide
  ·split at h1
   ·rename_i hc
    subst hc
    split at h1
    ·rename_i hd
     rw[List.all_cons,(sNat_all hd).2]; decide
    ·cases h1
   ·split at h1
    ·rename_i hd; exact (sNat_all hd).2
    ·cases h1
def pMI (l:Bs) : Option ((Bool×Int)×Bs):=match l with
 | []=>some ((false,0),[])
 | c :: r=>if isI c=true then (pInt (c :: r)).map fun p=>((true,p.1),p.2) else some ((false,0),c :: r)
def sMI (p:Bs) : Option (Bool×Int):=match p with
 | []=>some (false,0)
 | c :: r=>(sInt (c :: r)).map fun n=>(true,n)
def NoI (t:Bs) : Prop:=∀ c r,t=c :: r→isI c=false
theorem NoI.dg {t:Bs} (h:NoI t) : NoDg t:=fun c r e=>by
 have:=h c r e
 unfold isI at this
 rw[Bool.or_eq_false_iff] at this
 exact this.2
theorem mi_ext {p:Bs} {x:Bool×Int} (h:sMI p=some x) {t:Bs} (ht:NoI t) : pMI (p++t)=some (x,t):=by
 cases p with
 | nil=>
  have h1:some (false,(0:Int))=some x:=h
  injection h1 with h1
  subst h1
  cases t with
  | nil=>rfl
  | cons c r=>
   show (if isI c=true then (pInt (c :: r)).map (fun p=>((true,p.1),p.2)) else some ((false,0),c :: r))=_
   rw[ht c r rfl,if_neg (by decide)]
 | cons c r=>
  have h1:(sInt (c :: r)).map (fun n=>(true,n))=some x:=h
  cases hs:sInt (c :: r) with
  | none=>rw[hs] at h1; cases h1
  | some n=>
   rw[hs] at h1
   injection h1 with h1
   subst h1
   have ha:=(sInt_all hs).2
   rw[List.all_cons,Bool.and_eq_true] at ha
   show (if isI c=true then (pInt (c :: r++t)).map (fun p=>((true,p.1),p.2)) else some ((false,0),c :: r++t))=_
   rw[if_pos ha.1,pInt_ext hs ht.dg]; rfl
theorem mi_got {l t:Bs} {x:Bool×Int} (h:pMI l=some (x,t)) : ∃ p,l=p++t∧sMI p=some x∧p.all isI=true∧(x.1=false→p=[])∧(x.1=true→p≠[]∧sInt p=some x.2):=by
 cases l with
 | nil=>
  have h1:some (((false,(0:Int)),([] : Bs)))=some (x,t):=h
  injection h1 with h1
  injection h1 with h1 h2
  subst h1; subst h2
  exact⟨[],rfl,rfl,rfl,fun _=>rfl,fun h=>by cases h⟩
 | cons c r=>
  have h1:(if isI c=true then (pInt (c :: r)).map (fun p=>((true,p.1),p.2)) else some ((false,0),c :: r))=some (x,t):=h
  split at h1
  ·cases hp:pInt (c :: r) with
   | none=>rw[hp] at h1; cases h1
   | some q=>
    obtain⟨n,u⟩:=q
    rw[hp] at h1
    injection h1 with h1
    injection h1 with h2 h3
    have h3':u=t:=h3
    subst h3'; subst h2
    obtain⟨s,e,hs⟩:=pInt_some hp
    refine⟨s,e,?_,(sInt_all hs).2,fun h=>(by cases h),fun _=>⟨(sInt_all hs).1,hs⟩⟩
    cases s with
    | nil=>cases hs
    | cons a b=>
     show (sInt (a :: b)).map _=_
     rw[hs]; rfl
  ·injection h1 with h1
   injection h1 with h1 h2
   subst h1; subst h2
   exact⟨[],rfl,rfl,rfl,fun _=>rfl,fun h=>by cases h⟩
def nameS (v:Bs) : PSel:=⟨1,bsT v,false,false,false,0,0,0,[]⟩
def allS:PSel:=⟨2,⟨#[]⟩,false,false,false,0,0,0,[]⟩
def idxS (n:Int) : PSel:=⟨3,⟨#[]⟩,false,false,false,n,0,0,[]⟩
def slcS (a b c:Bool×Int) : PSel:=⟨4,⟨#[]⟩,a.1,b.1,c.1,a.2,b.2,c.2,[]⟩
def filS (o:List PFOp) : PSel:=⟨5,⟨#[]⟩,false,false,false,0,0,0,o⟩
def pIS (l:Bs) : Option (PSel×Bs):=match pMI l with
 | none=>none
 | some (a,t)=>if a.1=true∧t.head?≠some 58 then some (idxS a.2,t)
  else match t with
   | []=>none
   | d :: u=>if d=58 then (match pMI u with
     | none=>none
     | some (b,v)=>match v with
      | []=>some (slcS a b (false,0),[])
      | e :: w=>if e=58 then (match pMI w with
        | none=>none
        | some (c,z)=>some (slcS a b c,z)) else some (slcS a b (false,0),e :: w)) else none
abbrev XS:=PSel×Nat
def pSel (n:Nat) (l:Bs) : Option (XS×Bs):=match l with
 | []=>none
 | c :: r=>if c=39 then (pStr (c :: r)).map fun p=>((nameS p.1,0),p.2)
  else if c=42 then some ((allS,0),r)
  else if c=63 then (pCd n r).map fun p=>((filS p.1.1,p.1.2),p.2)
  else (pIS (c :: r)).map fun p=>((p.1,0),p.2)
theorem pSel_con (n:Nat) (c:UInt8) (r:Bs) : pSel n (c :: r)=(if c=39 then (pStr (c :: r)).map (fun p=>((nameS p.1,0),p.2))
  else if c=42 then some ((allS,0),r)
  else if c=63 then (pCd n r).map (fun p=>((filS p.1.1,p.1.2),p.2))
  else (pIS (c :: r)).map fun p=>((p.1,0),p.2)):=rfl
def sSlc (s:Bs) : Option PSel:=match spl 58 [] 0 [] s with
 | [p,q]=>(match sMI p,sMI q with
  | some a,some b=>some (slcS a b (false,0))
  | _,_=>none)
 | [p,q,w]=>(match sMI p,sMI q,sMI w with
  | some a,some b,some c=>some (slcS a b c)
  | _,_,_=>none)
 | _=>none
def sSel (n:Nat) (s:Bs) : Option XS:=if s=[42] then some (allS,0)
 else if s.head?=some 63 then (sCdOf (sPr n) s.tail).map fun p=>(filS p.1,p.2)
 else match sStr s with
  | some v=>some (nameS v,0)
  | none=>match sInt s with
   | some m=>some (idxS m,0)
   | none=>(sSlc s).map fun x=>(x,0)
def E3 (c:UInt8) : Bool:=c == 93 || c == 44
def EndS (t:Bs) : Prop:=∀ c r,t=c :: r→E3 c=true
theorem E3_ch {c:UInt8} (h:E3 c=true) : E2 c=true∧isI c=false∧c≠58:=by
 unfold E3 at h
 simp only[Bool.or_eq_true,beq_iff_eq] at h
 rcases h with rfl | rfl <;> exact⟨by decide,by decide,by decide⟩
theorem EndS.noI {t:Bs} (h:EndS t) : NoI t:=fun c r e=>(E3_ch (h c r e)).2.1
theorem EndS.no58 {t:Bs} (h:EndS t) : t.head?≠some 58:=by
 cases t with
 | nil=>intro e; cases e
 | cons c r=>
  intro e
  injection e with e
  exact (E3_ch (h c r rfl)).2.2 e
theorem noI_58 (r:Bs) : NoI (58 :: r):=fun c q e=>by injection e with e _; rw[← e]; decide
def P3 (c:UInt8) : Bool:=P2 c || c == 63 || c == 42 || c == 58 || isI c
theorem P3_I (c:UInt8) (h:isI c=true) : P3 c=true:=by unfold P3; rw[h,Bool.or_true]
theorem pIS_idx {p:Bs} {n:Int} (h:sInt p=some n) {t:Bs} (ht:NoI t) (h58:t.head?≠some 58) : pIS (p++t)=some (idxS n,t):=by
 have hm:sMI p=some (true,n):=by
  cases p with
  | nil=>cases h
  | cons a b=>show (sInt (a :: b)).map _=_; rw[h]; rfl
 unfold pIS
 rw[mi_ext hm ht]
 simp only
 rw[if_pos ⟨by trivial,h58⟩]
theorem pIS_two {p q:Bs} {a b:Bool×Int} (hp:sMI p=some a) (hq:sMI q=some b) {t:Bs} (ht:EndS t) : pIS (p++58 :: (q++t))=some (slcS a b (false,0),t):=by
 unfold pIS
 rw[mi_ext hp (noI_58 _)]
 simp only
 rw[if_neg (fun h=>h.2 rfl),if_pos (by trivial),mi_ext hq ht.noI]
 simp only
 cases t with
 | nil=>rfl
 | cons c r=>
  simp only
  rw[if_neg (E3_ch (ht c r rfl)).2.2]
theorem pIS_three {p q w:Bs} {a b c:Bool×Int} (hp:sMI p=some a) (hq:sMI q=some b) (hw:sMI w=some c) {t:Bs} (ht:EndS t) : pIS (p++58 :: (q++58 :: (w++t)))=some (slcS a b c,t):=by
 unfold pIS
 rw[mi_ext hp (noI_58 _)]
 simp only
 rw[if_neg (fun h=>h.2 rfl),if_pos (by trivial),mi_ext hq (noI_58 _)]
 simp only
 rw[if_pos (by trivial),mi_ext hw ht.noI]
theorem sMI_hd {p:Bs} {a:Bool×Int} (h:sMI p=some a) (r:Bs) : ∃ c q,p++58 :: r=c :: q∧(isI c=true∨c=58):=by
 cases p with
 | nil=>exact⟨58,r,rfl,.inr rfl⟩
 | cons c q=>
  refine⟨c,_,rfl,.inl ?_⟩
  have h1:(sInt (c :: q)).map (fun n=>(true,n))=some a:=h
  cases hs:sInt (c :: q) with
  | none=>rw[hs] at h1; cases h1
  | some n=>
   have:=(sInt_all hs).2
   rw[List.all_cons,Bool.and_eq_true] at this
   exact this.1
theorem pSel_is {c:UInt8} (n:Nat) (r:Bs) (h:isI c=true∨c=58) : pSel n (c :: r)=(pIS (c :: r)).map fun p=>((p.1,0),p.2):=by
 obtain⟨h1,h2,h3⟩:=isI_no h
 rw[pSel_con,if_neg h1,if_neg h2,if_neg h3]
theorem sel_ext {n:Nat} {s:Bs} {x:XS} (h:sSel n s=some x) {t:Bs} (ht:EndS t) : pSel n (s++t)=some (x,t):=by
 unfold sSel at h
 split at h
 ·rename_i hs
  subst hs
  injection h with h
  subst h; rfl
 ·split at h
  ·rename_i hs
   cases s with
   | nil=>cases hs
   | cons c r=>
    injection hs with hs
    subst hs
    cases hc:sCdOf (sPr n) r with
    | none=>rw[List.tail_cons,hc] at h; cases h
    | some p=>
     rw[List.tail_cons,hc] at h
     injection h with h
     subst h
     rw[List.cons_append,pSel_con,if_neg (by decide),if_neg (by decide),if_pos rfl,(fit_cd n).ext hc t (fun a b e=>(E3_ch (ht a b e)).1)]; rfl
  ·cases hv:sStr s with
   | some v=>
    rw[hv] at h
    simp only at h
    injection h with h
    subst h
    have h1:=pStr_ext hv t
    cases s with
    | nil=>cases hv
    | cons c r=>
     have hc:c=39:=by
      have h5:(if c=39∧sE r=some [] then sD r.dropLast else none)=some v:=hv
      split at h5
      ·rename_i hh; exact hh.1
      ·cases h5
     subst hc
     rw[List.cons_append] at h1 ⊢
     rw[pSel_con,if_pos rfl,h1]; rfl
   | none=>
    rw[hv] at h
    simp only at h
    cases hi:sInt s with
    | some m=>
     rw[hi] at h
     simp only at h
     injection h with h
     subst h
     have h1:=pIS_idx hi ht.noI ht.no58
     have ha:=sInt_all hi
     cases s with
     | nil=>cases hi
     | cons c r=>
      have hc:=ha.2
      rw[List.all_cons,Bool.and_eq_true] at hc
      rw[List.cons_append] at h1 ⊢
      rw[pSel_is n _ (.inl hc.1),h1]; rfl
    | none=>
     rw[hi] at h
     simp only at h
     obtain⟨-,hj⟩:=spl_jn 58 [] s 0 []
     rw[List.nil_append] at hj
     cases hx:sSlc s with
     | none=>rw[hx] at h; cases h
     | some y=>
      rw[hx] at h
      injection h with h
      subst h
      unfold sSlc at hx
      split at hx
      ·rename_i p q hps
       rw[hps] at hj
       have e:s=p++58 :: q:=by rw[← hj]; simp[jn]
       cases ha:sMI p with
       | none=>rw[ha] at hx; cases hx
       | some a=>
        cases hb:sMI q with
        | none=>rw[ha,hb] at hx; cases hx
        | some b=>
         rw[ha,hb] at hx
         simp only at hx
         injection hx with hx
         subst hx
         have h1:=pIS_two ha hb ht
         obtain⟨c,z,hcz,hc⟩:=sMI_hd ha (q++t)
         have e2:s++t=p++58 :: (q++t):=by rw[e]; simp
         rw[e2]
         rw[hcz] at h1 ⊢
         rw[pSel_is n _ hc,h1]; rfl
      ·rename_i p q w hps
       rw[hps] at hj
       have e:s=p++58 :: (q++58 :: w):=by rw[← hj]; simp[jn]
       cases ha:sMI p with
       | none=>rw[ha] at hx; cases hx
       | some a=>
        cases hb:sMI q with
        | none=>rw[ha,hb] at hx; cases hx
        | some b=>
         cases hc:sMI w with
         | none=>rw[ha,hb,hc] at hx; cases hx
         | some c=>
          rw[ha,hb,hc] at hx
          simp only at hx
          injection hx with hx
          subst hx
          have h1:=pIS_three ha hb hc ht
          obtain⟨d,z,hcz,hd⟩:=sMI_hd ha (q++58 :: (w++t))
          have e2:s++t=p++58 :: (q++58 :: (w++t)):=by rw[e]; simp
          rw[e2]
          rw[hcz] at h1 ⊢
          rw[pSel_is n _ hd,h1]; rfl
      ·cases hx
structure Msg where
 ver:Int
 ptrs:List ByteArray
 over:Bool
structure Wat where
 client:Int
 ptr:ByteArray
 cap:Int
 since:Int
 closed:Bool
 queue:List Msg
structure Nws where
 ver:Int
 ptrs:List ByteArray
structure Hb where
 watches:List Wat
 waiting:List Nws
def msgR:RElem Msg where
 wd:=3
 R:=fun w vs m=>∃ q,vs=[.int .i64 m.ver,q,.bool m.over]∧RRow sRE w q m.ptrs
 len:=fun h=>by obtain⟨q,h,_⟩:=h; rw[h]; rfl
 keep:=fun h hb=>by obtain⟨q,h1,h2⟩:=h; exact⟨q,h1,h2.below hb⟩
def nwsR:RElem Nws where
 wd:=2
 R:=fun w vs m=>∃ q,vs=[.int .i64 m.ver,q]∧RRow sRE w q m.ptrs
 len:=fun h=>by obtain⟨q,h,_⟩:=h; rw[h]; rfl
 keep:=fun h hb=>by obtain⟨q,h1,h2⟩:=h; exact⟨q,h1,h2.below hb⟩
def watR:RElem Wat where
 wd:=6
 R:=fun w vs m=>∃ q,vs=[.int .i64 m.client,.string m.ptr,.int .i64 m.cap,.int .i64 m.since,.bool m.closed,q]∧m.ptr.size≤maxLen∧RRow msgR w q m.queue
 len:=fun h=>by obtain⟨q,h,_⟩:=h; rw[h]; rfl
 keep:=fun h hb=>by obtain⟨q,h1,h0,h2⟩:=h; exact⟨q,h1,h0,h2.below hb⟩
def RHub (w:World) (v:Value) (h:Hb) : Prop:=∃ p q,v = .agg #[p,q]∧RRow watR w p h.watches∧RRow nwsR w q h.waiting
theorem RHub.below {w w':World} {v:Value} {h:Hb} (hr:RHub w v h) (hb:Below w.heap.size w w') : RHub w' v h:=by
 obtain⟨p,q,hv,h1,h2⟩:=hr
 exact⟨p,q,hv,h1.below hb,h2.below hb⟩
theorem alloc_b (w:World) (o:Obj) : Below w.heap.size w (w.alloc o):=(Below.refl _ _).alloc (Nat.le_refl _) o
def szStep (m:PStep) : Nat:=m.name.size
def szSteps (ms:List PStep) : Nat:=ms.length+(ms.map szStep).sum
def szFop (m:PFOp) : Nat:=m.s.size+szSteps m.steps
def szFops (ms:List PFOp) : Nat:=ms.length+(ms.map szFop).sum
def szSel (m:PSel) : Nat:=m.name.size+szFops m.cond
def szSels (ms:List PSel) : Nat:=ms.length+(ms.map szSel).sum
def szSeg (m:PSeg) : Nat:=szSels m.sels
def szSegs (ms:List PSeg) : Nat:=ms.length+(ms.map szSeg).sum
theorem infoU8:(Tryz.prog.info? 5).map (fun i=>(i.zero,i.size,i.bytes))=some (some (.int .u8 0),1,1):=by kernel_rfl
theorem byteCells_at {l:List UInt8} {j:Nat} (hj:j < l.length) : (Lib.byteCells l)[j]?=some (.int .u8 (l[j].toNat:Int)):=by simp[Lib.byteCells,hj]
theorem lit1 (w:World) (t:TypeId) (x:Value) : ∀ j u,[x][j]?=some u→(w.alloc (.cells #[x] t)).cell? ((⟨w.heap.size,0,none⟩ : Addr).add j)=some u:=by
 intro j u hj
 match j,hj with
 | 0,hj=>simp at hj; subst hj; simp[Addr.add]
theorem one1 (k:IntKind) (a:Int) : ∀ u∈[Value.int k a],u.oneCell'=true:=by intro u hu; simp at hu; subst hu; rfl
theorem own_step {w1:World} {B e:Nat} {v':Value} {l m:List UInt8} {news:List Value} {k:Nat} (h:w1.ownsRow B e 1 v' ((Lib.byteCells l).length+k) (Lib.byteCells l++news)) (hn:news=Lib.byteCells m) (hk:k=m.length) :
  w1.ownsRow B e 1 v' (Lib.byteCells (l++m)).length (Lib.byteCells (l++m)):=by
 subst hn; subst hk
 rw[Lib.byteCells_append]
 have:(Lib.byteCells l++Lib.byteCells m).length=(Lib.byteCells l).length+m.length:=by simp[Lib.byteCells]
 rw[this]; exact h
theorem convert_own {w:World} {B:Nat} {v:Value} {l:List UInt8} (h:w.ownsRow B 5 1 v (Lib.byteCells l).length (Lib.byteCells l)) : (convert 22 9 v).run Tryz.prog w = .ok (.string ⟨l.toArray⟩) w:=by
 have hl:=Lib.byteCells_length l
 rcases h.2 with ⟨hv,h0⟩ | ⟨g,cap,cur,hv,_⟩
 ·have e0:l=[]:=List.eq_nil_of_length_eq_zero (by omega)
  subst hv; subst e0
  exact run_convert_bytes_nil (P:=Tryz.prog) w 22 5 Tryz.underlying22 Tryz.underlying5 0 0 9 Tryz.underlying9
 ·subst hv
  rw[hl] at h ⊢
  exact run_convert_bytes_back (P:=Tryz.prog) w 22 9 5 ⟨g,0,none⟩ cap l Tryz.underlying22 Tryz.underlying5 Tryz.underlying9 (fun j hj=>by
   rw[show ((⟨g,0,none⟩ : Addr).add j)=⟨g,j,none⟩ from by simp[Addr.add]; omega,h.cellAt j (by omega)]; exact byteCells_at hj)
def unesc:List UInt8→Option (List UInt8)
 | []=>some []
 | c :: r=>
  if c.toNat=126 then
   match r with
   | []=>none
   | d :: r'=>if d.toNat=48 then (unesc r').map (126 :: ·) else if d.toNat=49 then (unesc r').map (47 :: ·) else none
  else (unesc r).map (c :: ·)
def UnAt (l:List UInt8) (j:Nat) (acc:List UInt8) : Prop:=unesc l=(unesc (l.drop j)).map (acc++·)
theorem UnAt.start (l:List UInt8) : UnAt l 0 []:=by simp[UnAt]
theorem UnAt.step {l:List UInt8} {j k:Nat} {acc m:List UInt8} (h:UnAt l j acc) (hs:unesc (l.drop j)=(unesc (l.drop k)).map (m++·)) : UnAt l k (acc++m):=by
 unfold UnAt at *; rw[h,hs,Option.map_map]; congr 1; funext x; simp
theorem UnAt.bad {l:List UInt8} {j:Nat} {acc:List UInt8} (h:UnAt l j acc) (hs:unesc (l.drop j)=none) : unesc l=none:=by
 unfold UnAt at h; rw[h,hs]; rfl
theorem UnAt.fin {l:List UInt8} {j:Nat} {acc:List UInt8} (h:UnAt l j acc) (hj:l.length≤j) : unesc l=some acc:=by
 unfold UnAt at h; rw[h,List.drop_eq_nil_of_le hj]; simp[unesc]
def pieces:List UInt8→List (List UInt8)
 | []=>[[]]
 | c :: r=>if c.toNat=47 then [] :: pieces r else (match pieces r with | []=>[[c]] | p :: ps=>(c :: p) :: ps)
theorem pieces_cut {c:UInt8} (r:List UInt8) (h:c.toNat=47) : pieces (c :: r)=[] :: pieces r:=by rw[pieces,if_pos h]
theorem pieces_go {c:UInt8} {r p:List UInt8} {ps:List (List UInt8)} (h:¬ c.toNat=47) (hr:pieces r=p :: ps) : pieces (c :: r)=(c :: p) :: ps:=by rw[pieces,if_neg h,hr]
def toks (l:List UInt8) : Option (List (List UInt8)):=(pieces l).mapM unesc
end Go.Proofs.YtkjcgkfejdogbaaGreatDoor
