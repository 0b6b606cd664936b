import Derived.Test.YtocnekbedcnmgaaGreatDoorBa3
import Derived.Test.YtocnekbedcnmgaaGreatDoorBa4
import Derived.Test.YtocnekbedcnmgaaGreatDoorBa1
import Derived.Lib.ParseIntBCases
import Derived.Lib.ItoaMem
set_option maxRecDepth 100000
set_option maxHeartbeats 8000000
namespace Go.Proofs.YtocnekbedcnmgaaGreatDoor
open Go.RowKit
theorem p_cnt (s:ByteArray) : ∀ f i,(∀ v j,pv s f i=some (v,j)→cntV v+i≤j)∧(∀ l j,pa s f i=some (l,j)→cntL l+i≤j)∧(∀ m j,po s f i=some (m,j)→cntM m+i≤j)
 | 0,i=>⟨fun v j h=>by simp[pv] at h,fun v j h=>by simp[pa] at h,fun v j h=>by simp[po] at h⟩
 | f+1,i=>by
  refine⟨fun v j h=>?_,fun l j h=>?_,fun m j h=>?_⟩
  ·rw[pv] at h
   have g:=sk_ge s (i+1)
   split at h
   ·split at h
    ·have:=bt_in (s:=s) (i:=sk s (i+1)) (by omega)
     injection h with h; injection h with hv h; subst hv; (try simp only[cntV]); (try simp only[cntL]); (try simp only[cntM]); omega
    ·simp only[Option.map_eq_some_iff] at h
     obtain⟨⟨l,k⟩,hk,h⟩:=h
     injection h with hv h
     have:=(p_cnt s f (sk s (i+1))).2.1 l k hk
     subst hv; simp only at h; (try simp only[cntV]); (try simp only[cntL]); (try simp only[cntM]); omega
   ·split at h
    ·split at h
     ·have:=bt_in (s:=s) (i:=sk s (i+1)) (by omega)
      injection h with h; injection h with hv h; subst hv; (try simp only[cntV]); (try simp only[cntL]); (try simp only[cntM]); omega
     ·simp only[Option.map_eq_some_iff] at h
      obtain⟨⟨l,k⟩,hk,h⟩:=h
      injection h with hv h
      have:=(p_cnt s f (sk s (i+1))).2.2 l k hk
      subst hv; simp only at h; (try simp only[cntV]); (try simp only[cntL]); (try simp only[cntM]); omega
    ·split at h
     ·simp only[Option.map_eq_some_iff] at h
      obtain⟨⟨l,k⟩,hk,h⟩:=h
      injection h with hv h
      have:=strQ_ok hk
      subst hv; simp only at h; (try simp only[cntV]); (try simp only[cntL]); (try simp only[cntM]); omega
     ·split at h
      ·rename_i hw
       have:=wNull_in hw
       injection h with h; injection h with hv h; subst hv; (try simp only[cntV]); (try simp only[cntL]); (try simp only[cntM]); omega
      ·split at h
       ·rename_i hw
        have:=wTrue_in hw
        injection h with h; injection h with hv h; subst hv; (try simp only[cntV]); (try simp only[cntL]); (try simp only[cntM]); omega
       ·split at h
        ·rename_i hw
         have:=wFalse_in hw
         injection h with h; injection h with hv h; subst hv; (try simp only[cntV]); (try simp only[cntL]); (try simp only[cntM]); omega
        ·simp only[Option.map_eq_some_iff] at h
         obtain⟨⟨l,k⟩,hk,h⟩:=h
         injection h with hv h
         have:=nm_ok hk
         subst hv; simp only at h; (try simp only[cntV]); (try simp only[cntL]); (try simp only[cntM]); omega
  ·rw[pa] at h
   simp only[Option.bind_eq_some_iff] at h
   obtain⟨⟨v,k⟩,hk,h⟩:=h
   have h1:=(p_cnt s f i).1 v k hk
   have g1:=sk_ge s k
   simp only at h
   split at h
   ·have:=bt_in (s:=s) (i:=sk s k) (by omega)
    injection h with h; injection h with hv h; subst hv; (try simp only[cntV]); (try simp only[cntL]); (try simp only[cntM]); omega
   ·split at h
    ·simp only[Option.map_eq_some_iff] at h
     obtain⟨⟨l,n⟩,hn,h⟩:=h
     injection h with hv h
     have:=(p_cnt s f _).2.1 l n hn
     have g2:=sk_ge s (sk s k+1)
     subst hv; simp only at h; (try simp only[cntL]); (try simp only[cntM]); omega
    ·cases h
  ·rw[po] at h
   simp only[Option.bind_eq_some_iff] at h
   obtain⟨⟨key,a⟩,ha,h⟩:=h
   have h0:=strQ_ok ha
   simp only at h
   split at h
   ·simp only[Option.bind_eq_some_iff] at h
    obtain⟨⟨v,k⟩,hk,h⟩:=h
    have h1:=(p_cnt s f _).1 v k hk
    have g0:=sk_ge s a
    have g3:=sk_ge s (sk s a+1)
    have g1:=sk_ge s k
    simp only at h
    split at h
    ·have:=bt_in (s:=s) (i:=sk s k) (by omega)
     injection h with h; injection h with hv h; subst hv; (try simp only[cntV]); (try simp only[cntL]); (try simp only[cntM]); omega
    ·split at h
     ·simp only[Option.map_eq_some_iff] at h
      obtain⟨⟨l,n⟩,hn,h⟩:=h
      injection h with hv h
      have:=(p_cnt s f _).2.2 l n hn
      have g2:=sk_ge s (sk s k+1)
      subst hv; simp only at h; (try simp only[cntM]); omega
     ·cases h
   ·cases h
theorem val_cnt {s:ByteArray} {i j:Nat} {v:JV} (h:val s i=some (v,j)) : cntV v+i≤j:=(p_cnt s _ i).1 v j h
def docR (s:ByteArray) : Option JV:=(val s (sk s 0)).bind fun q=>if sk s q.2=s.size then some q.1 else none
def readR (s:ByteArray) : Sum Nat JV:=
 if 20000 < s.size then .inl 1 else
 match docR s with
 | none=>.inl 2
 | some v=>if bigV v then .inl 3 else if twV v then .inl 4 else if 100 < depV v∨3000 < cntV v then .inl 5 else .inr v
theorem doc_facts {s:ByteArray} {v:JV} (h:docR s=some v) : okV v∧cntV v≤s.size∧(ct v).length≤30*s.size:=by
 unfold docR at h
 cases hv:val s (sk s 0) with
 | none=>rw[hv] at h; simp at h
 | some q=>
  obtain⟨u,j⟩:=q
  have e:u=v:=by
   rw[hv] at h
   simp only[Option.bind_some] at h
   split at h
   ·injection h
   ·cases h
  subst e
  have h1:=val_cnt hv
  have h2:=val_len hv
  have h3:=val_ok hv
  exact⟨val_okV hv,by omega,by omega⟩
def canonV (s:ByteArray) : Value:=match readR s with
 | .inl c=>.tuple #[.string ⟨#[]⟩,.int .i64 (c:Int)]
 | .inr v=>.tuple #[.string (strOf (ct v)),.int .i64 0]
theorem read_facts {s:ByteArray} {v:JV} (h:readR s = .inr v) : s.size≤20000∧docR s=some v∧twV v=false∧bigV v=false∧depV v≤100∧cntV v≤3000:=by
 unfold readR at h
 split at h
 ·cases h
 ·rename_i hs
  cases hd:docR s with
  | none=>rw[hd] at h; simp at h
  | some u=>
   rw[hd] at h
   simp only at h
   split at h
   ·cases h
   ·rename_i hb
    split at h
    ·cases h
    ·rename_i ht
     split at h
     ·cases h
     ·rename_i hg
      injection h with h
      subst h
      exact⟨by omega,rfl,by simpa using ht,by simpa using hb,by omega,by omega⟩
theorem read_code {s:ByteArray} {c:Nat} (h:readR s = .inl c) : 1≤c∧c≤5:=by
 unfold readR at h
 split at h
 ·injection h with h; omega
 ·split at h
  ·injection h with h; omega
  ·split at h
   ·injection h with h; omega
   ·split at h
    ·injection h with h; omega
    ·split at h
     ·injection h with h; omega
     ·cases h
def insJ (p:List UInt8×JV) : List (List UInt8×JV)→List (List UInt8×JV)
 | []=>[p]
 | q :: r=>if p.1 < q.1 then q :: insJ p r else p :: q :: r
def isortJ (l:List (List UInt8×JV)) : List (List UInt8×JV):=(l.foldl (fun acc p=>insJ p acc) []).reverse
def idxJ:Nat→List JV→List (List UInt8×JV)
 | _,[]=>[]
 | b,v :: r=>(decT b,v) :: idxJ (b+1) r
def kidsV:JV→List (List UInt8×JV)
 | .arr l=>idxJ 0 l.toL
 | .obj m=>isortJ m.toL
 | _=>[]
def kt (q:List UInt8×JV) : List UInt8×List UInt8:=(q.1,ct q.2)
theorem insJ_kt (p:List UInt8×JV) : ∀ l:List (List UInt8×JV),(insJ p l).map kt=insR (kt p) (l.map kt)
 | []=>rfl
 | q :: r=>by
  rw[insJ,List.map_cons,insR]
  by_cases h:p.1 < q.1
  ·have h':(kt p).1 < (kt q).1:=h
   rw[if_pos h,if_pos h',List.map_cons,insJ_kt p r]
  ·have h':¬ (kt p).1 < (kt q).1:=h
   rw[if_neg h,if_neg h',List.map_cons,List.map_cons]
theorem foldJ_kt:∀ (l acc:List (List UInt8×JV)),(l.foldl (fun acc p=>insJ p acc) acc).map kt=(l.map kt).foldl (fun acc p=>insR p acc) (acc.map kt)
 | [],acc=>rfl
 | p :: l,acc=>by rw[List.foldl_cons,List.map_cons,List.foldl_cons,foldJ_kt l,insJ_kt]
theorem isortJ_kt (l:List (List UInt8×JV)) : (isortJ l).map kt=isort (l.map kt):=by
 unfold isortJ isort
 rw[List.map_reverse,foldJ_kt]
 rfl
theorem insJ_perm (p:List UInt8×JV) : ∀ l,(insJ p l).Perm (p :: l)
 | []=>List.Perm.refl _
 | q :: r=>by
  unfold insJ
  split
  ·exact ((insJ_perm p r).cons q).trans (List.Perm.swap p q r)
  ·exact List.Perm.refl _
theorem foldJ_perm:∀ (l acc:List (List UInt8×JV)),(l.foldl (fun acc p=>insJ p acc) acc).Perm (l++acc)
 | [],acc=>List.Perm.refl _
 | p :: l,acc=>by
  rw[List.foldl_cons]
  exact (foldJ_perm l _).trans (((insJ_perm p acc).append_left l).trans (List.perm_middle))
theorem isortJ_perm (l:List (List UInt8×JV)) : (isortJ l).Perm l:=by
 unfold isortJ
 have:=foldJ_perm l []
 rw[List.append_nil] at this
 exact (List.reverse_perm _).trans this
theorem idxJ_kt:∀ (vs:List JV) (b:Nat),(idxJ b vs).map kt=idxF b (vs.map ct)
 | [],_=>rfl
 | v :: r,b=>by rw[idxJ,List.map_cons,List.map_cons,idxF,idxJ_kt r]; rfl
theorem idxJ_len:∀ (vs:List JV) (b:Nat),(idxJ b vs).length=vs.length
 | [],_=>rfl
 | v :: r,b=>by rw[idxJ,List.length_cons,List.length_cons,idxJ_len r]
theorem idxJ_at:∀ (vs:List JV) (b j:Nat) (h:j < (idxJ b vs).length),(idxJ b vs)[j]=(decT (b+j),vs[j]'(by rw[idxJ_len] at h; exact h))
 | [],b,j,h=>by simp[idxJ] at h
 | t :: r,b,0,h=>rfl
 | t :: r,b,j+1,h=>by
  simp only[idxJ,List.getElem_cons_succ]
  rw[idxJ_at r (b+1) j]
  rw[show b+1+j=b+(j+1) by omega]
theorem idxJ_snd:∀ (vs:List JV) (b:Nat),(idxJ b vs).map (·.2)=vs
 | [],_=>rfl
 | v :: r,b=>by rw[idxJ,List.map_cons,idxJ_snd r]
theorem parts_kids (v:JV) : partsV v=(kidsV v).map kt:=by
 cases v with
 | arr l=>show idxF 0 (ctL l)=(idxJ 0 l.toL).map kt; rw[idxJ_kt,ctL_map]
 | obj m=>show isort (ctM m)=(isortJ m.toL).map kt; rw[isortJ_kt,ctM_map]; rfl
 | nul=>rfl
 | tt=>rfl
 | ff=>rfl
 | num l=>rfl
 | str l=>rfl
theorem dlK_at:∀ (vs:List JV) (v:JV),v∈vs→depV v≤dl vs
 | [],v,h=>by simp at h
 | x :: r,v,h=>by
  rw[dl]
  rcases List.mem_cons.1 h with rfl | h
  ·omega
  ·have:=dlK_at r v h; omega
theorem kids_ok {v:JV} (hok:okV v) (htw:twV v=false) {q:List UInt8×JV} (hq:q∈kidsV v) : okV q.2∧twV q.2=false∧depV q.2+1≤depV v∧q.1.length+(ct q.2).length+1≤(ct v).length:=by
 cases v with
 | arr l=>
  rw[okV] at hok
  rw[twV] at htw
  have hq':q∈idxJ 0 l.toL:=hq
  obtain⟨j,hj,rfl⟩:=List.getElem_of_mem hq'
  have hl:j < l.toL.length:=by rw[idxJ_len] at hj; exact hj
  rw[idxJ_at]
  simp only[Nat.zero_add]
  have hm:=List.getElem_mem hl
  obtain⟨a,b⟩:=okL_at l hok htw _ hm
  have hd:=dlK_at _ _ hm
  have e:=depL_dl l
  have hct:(ct (.arr l)).length=hold (ctL l).length+nl (ctL l):=by
   show (mkA (ctL l)).length=_
   have:=joinC_nl (ctL l)
   simp[mkA]; omega
  have n1:(ct l.toL[j]).length≤nl (ctL l):=by have:=sum_at ((ctL l).map List.length) j (by rw[ctL_map]; simpa using hl); simpa [nl,ctL_map] using this
  have n2:=decT_len j
  have n3:(ctL l).length=l.toL.length:=by rw[ctL_map,List.length_map]
  refine⟨a,b,?_,?_⟩
  ·rw[depV]; omega
  ·rw[hct]; unfold hold; omega
 | obj m=>
  rw[okV] at hok
  rw[twV] at htw
  have hm:q∈m.toL:=(isortJ_perm _).subset hq
  obtain⟨a,b⟩:=okM_at m [] hok htw _ hm
  have hd:=dlK_at (m.toL.map (·.2)) q.2 (List.mem_map.2 ⟨q,hm,rfl⟩)
  have e:=depM_dl m
  have hct:=ctObj_len m
  have n1:=sumf_at memN hm
  simp only[memN] at n1
  have n2:=quoted_ge q.1
  refine⟨a,b,?_,?_⟩
  ·rw[depV]; omega
  ·omega
 | nul=>simp[kidsV] at hq
 | tt=>simp[kidsV] at hq
 | ff=>simp[kidsV] at hq
 | num l=>simp[kidsV] at hq
 | str l=>simp[kidsV] at hq
theorem kids_cnt (v:JV) : cntV v=((kidsV v).map fun q=>cntV q.2).sum+1:=by
 cases v with
 | arr l=>
  rw[cntV,cntL_cl]
  show cl l.toL+1=((idxJ 0 l.toL).map fun q=>cntV q.2).sum+1
  have e:((idxJ 0 l.toL).map fun q=>cntV q.2)=((idxJ 0 l.toL).map (·.2)).map cntV:=by rw[List.map_map]; rfl
  rw[e,idxJ_snd]; rfl
 | obj m=>
  rw[cntV,cntM_sum]
  show _=((isortJ m.toL).map fun q=>cntV q.2).sum+1
  rw[((isortJ_perm m.toL).map fun q=>cntV q.2).sum_nat]
 | nul=>rfl
 | tt=>rfl
 | ff=>rfl
 | num l=>rfl
 | str l=>rfl
def numC (l:List UInt8) : Prop:=∃ (sg ds:List UInt8) (d:UInt8),l=sg++d :: ds∧(sg=[]∨sg=[45])∧isDg d.toNat=true∧(∀ b∈ds,isDg b.toNat=true)∧(d.toNat=48→ds=[]∧sg=[])
mutual
def rdV:JV→Prop
 | .nul=>True
 | .tt=>True
 | .ff=>True
 | .num l=>numC l
 | .str l=>Lib.validD l=true
 | .arr l=>rdL l
 | .obj m=>rdM m
def rdL:JL→Prop
 | .nil=>True
 | .cons v r=>rdV v∧rdL r
def rdM:JM→Prop
 | .nil=>True
 | .cons k v r=>Lib.validD k=true∧rdV v∧rdM r
end
mutual
def srV:JV→Prop
 | .arr l=>srL l
 | .obj m=>srM m∧isort (ctM m)=ctM m
 | _=>True
def srL:JL→Prop
 | .nil=>True
 | .cons v r=>srV v∧srL r
def srM:JM→Prop
 | .nil=>True
 | .cons _ v r=>srV v∧srM r
end
theorem numC_ok {l:List UInt8} (h:numC l) : ∃ (c:UInt8) (r:List UInt8),l=c :: r∧(c.toNat=45∨isDg c.toNat=true)∧∀ b∈r,isDg b.toNat=true:=by
 obtain⟨sg,ds,d,rfl,hs,hd,hds,_⟩:=h
 rcases hs with rfl | rfl
 ·exact⟨d,ds,rfl,.inr hd,hds⟩
 ·refine⟨45,d :: ds,rfl,.inl rfl,fun b hb=>?_⟩
  rcases List.mem_cons.1 hb with rfl | hb
  ·exact hd
  ·exact hds b hb
mutual
theorem rd_ok:∀ v:JV,rdV v→okV v
 | .nul,_=>by rw[okV]; trivial
 | .tt,_=>by rw[okV]; trivial
 | .ff,_=>by rw[okV]; trivial
 | .num l,h=>by rw[rdV] at h; rw[okV]; exact numC_ok h
 | .str l,h=>by rw[rdV] at h; rw[okV]; exact h
 | .arr l,h=>by rw[rdV] at h; rw[okV]; exact rd_okL l h
 | .obj m,h=>by rw[rdV] at h; rw[okV]; exact rd_okM m h
theorem rd_okL:∀ l:JL,rdL l→okL l
 | .nil,_=>by rw[okL]; trivial
 | .cons v r,h=>by rw[rdL] at h; rw[okL]; exact⟨rd_ok v h.1,rd_okL r h.2⟩
theorem rd_okM:∀ m:JM,rdM m→okM m
 | .nil,_=>by rw[okM]; trivial
 | .cons k v r,h=>by rw[rdM] at h; rw[okM]; exact⟨h.1,rd_ok v h.2.1,rd_okM r h.2.2⟩
end
theorem dg_run {T:ByteArray} : ∀ (ds m:List UInt8) (i:Nat),T.data.toList.drop i=ds++m→(∀ b∈ds,isDg b.toNat=true)→Stops m→dg T i=i+ds.length
 | [],m,i,h,_,hm=>by
  rcases hm with rfl | ⟨c,r,rfl,hc⟩
  ·rw[List.nil_append] at h
   have:T.size≤i:=by
    have:=List.drop_eq_nil_iff.1 h
    rw[data_len] at this; exact this
   rw[dg_off (by rw[bt_out T i this]; decide)]; rfl
  ·obtain⟨_,hb,_⟩:=at_head (T:=T) h
   rw[dg_off (by rw[hb,isDg_iff]; omega)]; rfl
 | d :: ds,m,i,h,hd,hm=>by
  obtain⟨_,hb,h2⟩:=at_head (T:=T) h
  rw[dg_on (by rw[hb]; exact hd d List.mem_cons_self),dg_run ds m (i+1) h2 (fun b hb=>hd b (List.mem_cons_of_mem _ hb)) hm,List.length_cons]
  omega
theorem cutB_app {T:ByteArray} {i:Nat} {l m:List UInt8} (h:T.data.toList.drop i=l++m) : cutB T i (i+l.length)=l:=by
 unfold cutB
 rw[h,show i+l.length - i=l.length by omega,List.take_left]
theorem nm_at {T:ByteArray} {i:Nat} {l m:List UInt8} (hn:numC l) (h:T.data.toList.drop i=l++m) (hm:Stops m) : nm T i=some (l,i+l.length):=by
 have hc:=cutB_app h
 obtain⟨sg,ds,d,rfl,hs,hd,hds,h0⟩:=hn
 have hdv:=isDg_iff.1 hd
 have key:∀ k,nmD T i=k→T.data.toList.drop k=d :: (ds++m)→k+1+ds.length=i+(sg++d :: ds).length→nm T i=some (sg++d :: ds,i+(sg++d :: ds).length):=by
  intro k e1 e2 e3
  obtain⟨_,hb,h2⟩:=at_head (T:=T) e2
  have e4:nmE T i=i+(sg++d :: ds).length:=by
   unfold nmE
   rw[e1,hb]
   split
   ·rename_i hz
    obtain⟨q1,q2⟩:=h0 hz
    subst q1
    simp only[List.length_nil] at e3
    omega
   ·rw[dg_on (by rw[hb]; exact hd),dg_run ds m (k+1) h2 hds hm]; omega
  unfold nm
  rw[e1,hb,if_pos hd,e4,hc]
  unfold norm0
  rw[if_neg]
  intro e
  rcases hs with rfl | rfl
  ·rw[List.nil_append] at e; injection e with e _; subst e; simp[isDg] at hd
  ·simp only[List.cons_append,List.nil_append,List.cons.injEq,true_and] at e
   have:d.toNat=48:=by rw[e.1]; rfl
   have:=(h0 this).2
   cases this
 rcases hs with rfl | rfl
 ·rw[List.nil_append] at h
  rw[List.cons_append] at h
  obtain⟨_,hb,h2⟩:=at_head (T:=T) h
  refine key i ?_ h (by simp; omega)
  unfold nmD; rw[if_neg (by omega)]
 ·rw[List.cons_append,List.nil_append,List.cons_append] at h
  obtain⟨_,hb,h2⟩:=at_head (T:=T) h
  refine key (i+1) ?_ h2 (by simp; omega)
  unfold nmD; rw[if_pos (by rw[hb]; rfl)]
theorem ct_first {v:JV} (h:okV v) : ∃ (c:UInt8) (r:List UInt8),ct v=c :: r∧c.toNat≠32∧c.toNat≠9∧c.toNat≠10∧c.toNat≠13∧c.toNat≠93∧c.toNat≠125:=by
 cases v with
 | nul=>exact⟨_,_,rfl,by decide,by decide,by decide,by decide,by decide,by decide⟩
 | tt=>exact⟨_,_,rfl,by decide,by decide,by decide,by decide,by decide,by decide⟩
 | ff=>exact⟨_,_,rfl,by decide,by decide,by decide,by decide,by decide,by decide⟩
 | num l=>
  rw[okV] at h
  obtain⟨c,r,rfl,hc,_⟩:=h
  have:c.toNat=45∨(48≤c.toNat∧c.toNat≤57):=hc.imp id isDg_iff.1
  exact⟨c,r,rfl,by omega,by omega,by omega,by omega,by omega,by omega⟩
 | str l=>exact⟨34,_,rfl,by decide,by decide,by decide,by decide,by decide,by decide⟩
 | arr l=>exact⟨91,_,rfl,by decide,by decide,by decide,by decide,by decide,by decide⟩
 | obj m=>exact⟨123,_,rfl,by decide,by decide,by decide,by decide,by decide,by decide⟩
theorem sk_here {T:ByteArray} {i:Nat} {c:UInt8} {r:List UInt8} (h:T.data.toList.drop i=c :: r) (h1:c.toNat≠32) (h2:c.toNat≠9) (h3:c.toNat≠10) (h4:c.toNat≠13) : sk T i=i:=by
 obtain⟨_,hb,_⟩:=at_head (T:=T) h
 exact sk_off (by omega)
mutual
theorem rd_at {T:ByteArray} : ∀ v:JV,rdV v→srV v→∀ i m,T.data.toList.drop i=ct v++m→Stops m→val T i=some (v,i+(ct v).length)
 | .nul,_,_,i,m,h,_=>by
  have h0:T.data.toList.drop i=110 :: 117 :: 108 :: 108 :: m:=h
  obtain⟨_,b0,h1⟩:=at_head (T:=T) h0
  obtain⟨_,b1,h2⟩:=at_head (T:=T) h1
  obtain⟨_,b2,h3⟩:=at_head (T:=T) h2
  obtain⟨_,b3,_⟩:=at_head (T:=T) h3
  rw[val_else (by rw[b0]; decide) (by rw[b0]; decide) (by rw[b0]; decide),if_pos (by unfold wNull; rw[b0,b1,b2,b3]; rfl)]
  rfl
 | .tt,_,_,i,m,h,_=>by
  have h0:T.data.toList.drop i=116 :: 114 :: 117 :: 101 :: m:=h
  obtain⟨_,b0,h1⟩:=at_head (T:=T) h0
  obtain⟨_,b1,h2⟩:=at_head (T:=T) h1
  obtain⟨_,b2,h3⟩:=at_head (T:=T) h2
  obtain⟨_,b3,_⟩:=at_head (T:=T) h3
  rw[val_else (by rw[b0]; decide) (by rw[b0]; decide) (by rw[b0]; decide),if_neg (by unfold wNull; rw[b0]; simp),if_pos (by unfold wTrue; rw[b0,b1,b2,b3]; rfl)]
  rfl
 | .ff,_,_,i,m,h,_=>by
  have h0:T.data.toList.drop i=102 :: 97 :: 108 :: 115 :: 101 :: m:=h
  obtain⟨_,b0,h1⟩:=at_head (T:=T) h0
  obtain⟨_,b1,h2⟩:=at_head (T:=T) h1
  obtain⟨_,b2,h3⟩:=at_head (T:=T) h2
  obtain⟨_,b3,h4⟩:=at_head (T:=T) h3
  obtain⟨_,b4,_⟩:=at_head (T:=T) h4
  rw[val_else (by rw[b0]; decide) (by rw[b0]; decide) (by rw[b0]; decide),if_neg (by unfold wNull; rw[b0]; simp),if_neg (by unfold wTrue; rw[b0]; simp),if_pos (by unfold wFalse; rw[b0,b1,b2,b3,b4]; rfl)]
  rfl
 | .num l,hr,_,i,m,h,hm=>by
  rw[rdV] at hr
  have hn:=nm_at hr h hm
  obtain⟨c,r,rfl,hc,_⟩:=numC_ok hr
  obtain⟨_,b0,_⟩:=at_head (T:=T) (c:=c) (m:=r++m) h
  have:c.toNat=45∨(48≤c.toNat∧c.toNat≤57):=hc.imp id isDg_iff.1
  rw[val_else (by omega) (by omega) (by omega),if_neg (by unfold wNull; simp; omega),if_neg (by unfold wTrue; simp; omega),if_neg (by unfold wFalse; simp; omega),hn]
  rfl
 | .str l,hr,_,i,m,h,_=>by
  rw[rdV] at hr
  obtain⟨_,b0,_⟩:=at_head (T:=T) (c:=34) (m:=qs l++[34]++m) (by rw[h]; simp[ct,quoted])
  rw[val_str (by rw[b0]; rfl),strQ_at l T m hr i h]
  rfl
 | .arr .nil,_,_,i,m,h,_=>by
  have h0:T.data.toList.drop i=91 :: 93 :: m:=h
  obtain⟨_,b0,h1⟩:=at_head (T:=T) h0
  obtain⟨_,b1,_⟩:=at_head (T:=T) h1
  rw[val_arr (by rw[b0]; rfl),sk_here h1 (by decide) (by decide) (by decide) (by decide),if_pos (by rw[b1]; rfl)]
  rfl
 | .arr (.cons v r),hr,hs,i,m,h,hm=>by
  rw[rdV] at hr
  rw[srV] at hs
  have h0:T.data.toList.drop i=91 :: (joinC (ctL (.cons v r))++93 :: m):=by rw[h]; simp[ct,mkA]
  obtain⟨_,b0,h1⟩:=at_head (T:=T) h0
  have hrv:=hr
  rw[rdL] at hrv
  obtain⟨c,q,e,c1,c2,c3,c4,c5,_⟩:=ct_first (rd_ok v hrv.1)
  have h1':T.data.toList.drop (i+1)=c :: (q++(joinT (ctL r)++93 :: m)):=by rw[h1,ctL,joinC,e]; simp
  obtain⟨_,b1,_⟩:=at_head (T:=T) h1'
  rw[val_arr (by rw[b0]; rfl),sk_here h1' c1 c2 c3 c4,if_neg (by rw[b1]; exact c5),rd_atL v r hr hs (i+1) m h1]
  have e2:(ct (.arr (.cons v r))).length=(joinC (ctL (.cons v r))).length+2:=by simp[ct,mkA]
  rw[e2]
  simp only[Option.map_some,Option.some.injEq,Prod.mk.injEq,true_and]
  omega
 | .obj .nil,_,_,i,m,h,_=>by
  have h0:T.data.toList.drop i=123 :: 125 :: m:=h
  obtain⟨_,b0,h1⟩:=at_head (T:=T) h0
  obtain⟨_,b1,_⟩:=at_head (T:=T) h1
  rw[val_obj (by rw[b0]; rfl),sk_here h1 (by decide) (by decide) (by decide) (by decide),if_pos (by rw[b1]; rfl)]
  rfl
 | .obj (.cons k v r),hr,hs,i,m,h,hm=>by
  rw[rdV] at hr
  rw[srV] at hs
  have hc:ct (.obj (.cons k v r))=123 :: (joinC ((ctM (.cons k v r)).map memT)++[125]):=by rw[ct,hs.2]; rfl
  have h0:T.data.toList.drop i=123 :: (joinC ((ctM (.cons k v r)).map memT)++125 :: m):=by rw[h,hc]; simp
  obtain⟨_,b0,h1⟩:=at_head (T:=T) h0
  have h1':T.data.toList.drop (i+1)=34 :: (qs k++[34]++58 :: ct v++(joinT ((ctM r).map memT)++125 :: m)):=by rw[h1,ctM,List.map_cons,joinC]; simp[memT,quoted]
  obtain⟨_,b1,_⟩:=at_head (T:=T) h1'
  rw[val_obj (by rw[b0]; rfl),sk_here h1' (by decide) (by decide) (by decide) (by decide),if_neg (by rw[b1]; decide),rd_atM k v r hr hs.1 (i+1) m h1]
  rw[hc]
  simp only[Option.map_some,Option.some.injEq,Prod.mk.injEq,true_and,List.length_cons,List.length_append,List.length_nil]
  omega
termination_by v=>SizeOf.sizeOf v
decreasing_by all_goals simp_wf; all_goals omega
theorem rd_atL {T:ByteArray} : ∀ (v:JV) (r:JL),rdL (.cons v r)→srL (.cons v r)→∀ i m,T.data.toList.drop i=joinC (ctL (.cons v r))++93 :: m→elems T i=some (.cons v r,i+(joinC (ctL (.cons v r))).length+1)
 | v,.nil,hr,hs,i,m,h=>by
  rw[rdL] at hr
  rw[srL] at hs
  have h':T.data.toList.drop i=ct v++93 :: m:=by rw[h]; simp[ctL,joinC,joinT]
  have hv:=rd_at v hr.1 hs.1 i (93 :: m) h' (.inr ⟨93,m,rfl,.inr (.inl rfl)⟩)
  have h2:T.data.toList.drop (i+(ct v).length)=93 :: m:=drop_past h'
  obtain⟨_,b2,_⟩:=at_head (T:=T) h2
  rw[elems_eq,hv]
  simp only[Option.bind_some]
  rw[sk_here h2 (by decide) (by decide) (by decide) (by decide),if_pos (by rw[b2]; rfl)]
  simp[ctL,joinC,joinT]
 | v,.cons u r,hr,hs,i,m,h=>by
  rw[rdL] at hr
  rw[srL] at hs
  have h':T.data.toList.drop i=ct v++44 :: (joinC (ctL (.cons u r))++93 :: m):=by rw[h]; simp[ctL,joinC,joinT]
  have hv:=rd_at v hr.1 hs.1 i _ h' (.inr ⟨44,_,rfl,.inl rfl⟩)
  have h2:T.data.toList.drop (i+(ct v).length)=44 :: (joinC (ctL (.cons u r))++93 :: m):=drop_past h'
  obtain⟨_,b2,h3⟩:=at_head (T:=T) h2
  have hru:=hr.2
  rw[rdL] at hru
  obtain⟨c,q,e,c1,c2,c3,c4,_,_⟩:=ct_first (rd_ok u hru.1)
  have h3':T.data.toList.drop (i+(ct v).length+1)=c :: (q++(joinT (ctL r)++93 :: m)):=by rw[h3,ctL,joinC,e]; simp
  rw[elems_eq,hv]
  simp only[Option.bind_some]
  rw[sk_here h2 (by decide) (by decide) (by decide) (by decide),if_neg (by rw[b2]; decide),if_pos (by rw[b2]; rfl),sk_here h3' c1 c2 c3 c4,rd_atL u r hr.2 hs.2 _ m h3]
  have e2:(joinC (ctL (.cons v (.cons u r)))).length=(ct v).length+1+(joinC (ctL (.cons u r))).length:=by simp[ctL,joinC,joinT]; omega
  rw[e2]
  simp only[Option.map_some,Option.some.injEq,Prod.mk.injEq,true_and]
  omega
termination_by v r=>SizeOf.sizeOf v+SizeOf.sizeOf r
decreasing_by all_goals simp_wf; all_goals omega
theorem rd_atM {T:ByteArray} : ∀ (k:List UInt8) (v:JV) (r:JM),rdM (.cons k v r)→srM (.cons k v r)→∀ i m,T.data.toList.drop i=joinC ((ctM (.cons k v r)).map memT)++125 :: m→mems T i=some (.cons k v r,i+(joinC ((ctM (.cons k v r)).map memT)).length+1)
 | k,v,.nil,hr,hs,i,m,h=>by
  rw[rdM] at hr
  rw[srM] at hs
  have h':T.data.toList.drop i=quoted k++(58 :: (ct v++125 :: m)):=by rw[h]; simp[ctM,joinC,joinT,memT]
  have hk:=strQ_at k T _ hr.1 i h'
  have h2:T.data.toList.drop (i+(quoted k).length)=58 :: (ct v++125 :: m):=drop_past h'
  obtain⟨_,b2,h3⟩:=at_head (T:=T) h2
  obtain⟨c,q,e,c1,c2,c3,c4,_,_⟩:=ct_first (rd_ok v hr.2.1)
  have h3':T.data.toList.drop (i+(quoted k).length+1)=c :: (q++125 :: m):=by rw[h3,e]; simp
  have hv:=rd_at v hr.2.1 hs.1 (i+(quoted k).length+1) (125 :: m) h3 (.inr ⟨125,m,rfl,.inr (.inr rfl)⟩)
  have h4:T.data.toList.drop (i+(quoted k).length+1+(ct v).length)=125 :: m:=drop_past h3
  obtain⟨_,b4,_⟩:=at_head (T:=T) h4
  rw[mems_eq,hk]
  simp only[Option.bind_some]
  rw[sk_here h2 (by decide) (by decide) (by decide) (by decide),if_pos (by rw[b2]; rfl),sk_here h3' c1 c2 c3 c4,hv]
  simp only[Option.bind_some]
  rw[sk_here h4 (by decide) (by decide) (by decide) (by decide),if_pos (by rw[b4]; rfl)]
  have e2:(joinC ((ctM (.cons k v .nil)).map memT)).length=(quoted k).length+1+(ct v).length:=by simp[ctM,joinC,joinT,memT]; omega
  rw[e2]
  simp only[Option.some.injEq,Prod.mk.injEq,true_and]
  omega
 | k,v,.cons k' u r,hr,hs,i,m,h=>by
  rw[rdM] at hr
  rw[srM] at hs
  have h':T.data.toList.drop i=quoted k++(58 :: (ct v++44 :: (joinC ((ctM (.cons k' u r)).map memT)++125 :: m))):=by rw[h]; simp[ctM,joinC,joinT,memT]
  have hk:=strQ_at k T _ hr.1 i h'
  have h2:=drop_past h'
  obtain⟨_,b2,h3⟩:=at_head (T:=T) h2
  obtain⟨c,q,e,c1,c2,c3,c4,_,_⟩:=ct_first (rd_ok v hr.2.1)
  have h3':T.data.toList.drop (i+(quoted k).length+1)=c :: (q++44 :: (joinC ((ctM (.cons k' u r)).map memT)++125 :: m)):=by rw[h3,e]; simp
  have hv:=rd_at v hr.2.1 hs.1 (i+(quoted k).length+1) _ h3 (.inr ⟨44,_,rfl,.inl rfl⟩)
  have h4:=drop_past h3
  obtain⟨_,b4,h5⟩:=at_head (T:=T) h4
  have h5':T.data.toList.drop (i+(quoted k).length+1+(ct v).length+1)=34 :: (qs k'++[34]++58 :: ct u++(joinT ((ctM r).map memT)++125 :: m)):=by rw[h5,ctM,List.map_cons,joinC]; simp[memT,quoted]
  rw[mems_eq,hk]
  simp only[Option.bind_some]
  rw[sk_here h2 (by decide) (by decide) (by decide) (by decide),if_pos (by rw[b2]; rfl),sk_here h3' c1 c2 c3 c4,hv]
  simp only[Option.bind_some]
  rw[sk_here h4 (by decide) (by decide) (by decide) (by decide),if_neg (by rw[b4]; decide),if_pos (by rw[b4]; rfl),sk_here h5' (by decide) (by decide) (by decide) (by decide),rd_atM k' u r hr.2.2 hs.2 _ m h5]
  have e2:(joinC ((ctM (.cons k v (.cons k' u r))).map memT)).length=(quoted k).length+1+(ct v).length+1+(joinC ((ctM (.cons k' u r)).map memT)).length:=by simp[ctM,joinC,joinT,memT]; omega
  rw[e2]
  simp only[Option.map_some,Option.some.injEq,Prod.mk.injEq,true_and]
  omega
termination_by _ v r=>SizeOf.sizeOf v+SizeOf.sizeOf r
decreasing_by all_goals simp_wf; all_goals omega
end
theorem doc_ct {v:JV} (h:rdV v) (hs:srV v) : docR (strOf (ct v))=some v:=by
 obtain⟨c,r,e,c1,c2,c3,c4,_,_⟩:=ct_first (rd_ok v h)
 have h0:(strOf (ct v)).data.toList.drop 0=ct v++[]:=by rw[strOf_toList]; simp
 have h1:(strOf (ct v)).data.toList.drop 0=c :: r:=by rw[strOf_toList]; simpa using e
 unfold docR
 rw[sk_here h1 c1 c2 c3 c4,rd_at v h hs 0 [] h0 (.inl rfl)]
 simp only[Option.bind_some,Nat.zero_add]
 rw[sk_past (by rw[strOf_size]; exact Nat.le_refl _),if_pos (strOf_size _).symm]
theorem fold_id:∀ (l acc:List (List UInt8×List UInt8)),l.Pairwise (fun a b=>a.1≤b.1)→(∀ a∈acc,∀ b∈l,a.1≤b.1)→l.foldl (fun acc p=>insR p acc) acc=l.reverse++acc
 | [],acc,_,_=>rfl
 | p :: l,acc,h,ha=>by
  rw[List.pairwise_cons] at h
  have e:insR p acc=p :: acc:=by
   cases acc with
   | nil=>rfl
   | cons q r=>rw[insR,if_neg (List.not_lt.2 (ha q List.mem_cons_self p List.mem_cons_self))]
  rw[List.foldl_cons,e,fold_id l (p :: acc) h.2 (fun a hm b hb=>by
   rcases List.mem_cons.1 hm with rfl | hm
   ·exact h.1 b hb
   ·exact ha a hm b (List.mem_cons_of_mem _ hb))]
  simp
theorem isort_id {l:List (List UInt8×List UInt8)} (h:l.Pairwise (fun a b=>a.1≤b.1)) : isort l=l:=by
 unfold isort
 rw[fold_id l [] h (fun a ha=>by simp at ha)]
 simp
theorem isort_twice (l:List (List UInt8×List UInt8)) : isort (isort l)=isort l:=isort_id (isort_up l)
def JM.ofL:List (List UInt8×JV)→JM
 | []=>.nil
 | (k,v) :: r=>.cons k v (JM.ofL r)
theorem JM.toL_ofL:∀ l:List (List UInt8×JV),(JM.ofL l).toL=l
 | []=>rfl
 | (k,v) :: r=>by rw[JM.ofL,JM.toL,JM.toL_ofL r]
theorem rdM_iff:∀ m:JM,rdM m↔∀ q∈m.toL,Lib.validD q.1=true∧rdV q.2
 | .nil=>by rw[rdM]; simp[JM.toL]
 | .cons k v r=>by rw[rdM,rdM_iff r,JM.toL]; simp[and_assoc]
theorem srM_iff:∀ m:JM,srM m↔∀ q∈m.toL,srV q.2
 | .nil=>by rw[srM]; simp[JM.toL]
 | .cons k v r=>by rw[srM,srM_iff r,JM.toL]; simp
theorem bigM_iff:∀ m:JM,bigM m=true↔∃ q∈m.toL,bigV q.2=true
 | .nil=>by rw[bigM]; simp[JM.toL]
 | .cons k v r=>by rw[bigM,Bool.or_eq_true,bigM_iff r,JM.toL]; simp
theorem twM_iff:∀ (m:JM) (ks:List (List UInt8)),twM ks m=false↔(∀ q∈m.toL,twV q.2=false)∧(m.toL.map (·.1)).Nodup∧∀ q∈m.toL,q.1 ∉ ks
 | .nil,ks=>by rw[twM]; simp[JM.toL]
 | .cons k v r,ks=>by
  rw[twM,JM.toL]
  simp only[Bool.or_eq_false_iff,twM_iff r,List.map_cons,List.nodup_cons,List.mem_cons,List.contains_eq_mem,decide_eq_false_iff_not,List.mem_append,List.mem_map]
  constructor
  ·rintro⟨⟨h1,h2⟩,h3,h4,h5⟩
   refine⟨?_,⟨?_,h4⟩,?_⟩
   ·rintro q (rfl | hq)
    ·exact h1
    ·exact h3 q hq
   ·rintro⟨q,hq,e⟩
    exact h5 q hq (.inr (by simp[e]))
   ·rintro q (rfl | hq)
    ·exact h2
    ·exact fun hk=>h5 q hq (.inl hk)
  ·rintro⟨h1,⟨h2,h3⟩,h4⟩
   refine⟨⟨h1 _ (.inl rfl),h4 _ (.inl rfl)⟩,fun q hq=>h1 q (.inr hq),h3,fun q hq hk=>?_⟩
   rcases hk with hk | hk
   ·exact h4 q (.inr hq) hk
   ·simp only[List.not_mem_nil,or_false] at hk
    exact h2 ⟨q,hq,hk⟩
theorem dl_iff:∀ (l:List JV) (n:Nat),dl l≤n↔∀ v∈l,depV v≤n
 | [],n=>by simp[dl]
 | v :: r,n=>by rw[dl,Nat.max_le,dl_iff r]; simp
theorem dlN_perm {a b:List JV} (h:a.Perm b) : dl a=dl b:=by
 have h1:=(dl_iff b (dl b)).1 (Nat.le_refl _)
 have h2:=(dl_iff a (dl a)).1 (Nat.le_refl _)
 exact Nat.le_antisymm ((dl_iff _ _).2 fun v hv=>h1 v (h.subset hv)) ((dl_iff _ _).2 fun v hv=>h2 v (h.symm.subset hv))
def srtM (m:JM) : JM:=JM.ofL (isortJ m.toL)
theorem srtM_perm (m:JM) : (srtM m).toL.Perm m.toL:=by unfold srtM; rw[JM.toL_ofL]; exact isortJ_perm _
theorem srtM_ct (m:JM) : ctM (srtM m)=isort (ctM m):=by
 have e1:ctM m=m.toL.map kt:=ctM_map m
 have e2:ctM (srtM m)=(srtM m).toL.map kt:=ctM_map _
 rw[e1,e2]
 unfold srtM
 rw[JM.toL_ofL,isortJ_kt]
theorem bool_of {a b:Bool} (h:a=false↔b=false) : a=b:=by
 cases a <;> cases b <;> simp at h <;> rfl
theorem srtM_facts (m:JM) : (rdM m→rdM (srtM m))∧(srM m→srM (srtM m))∧depM (srtM m)=depM m∧cntM (srtM m)=cntM m∧bigM (srtM m)=bigM m∧twM [] (srtM m)=twM [] m:=by
 have p:=srtM_perm m
 refine⟨fun h=>?_,fun h=>?_,?_,?_,?_,?_⟩
 ·rw[rdM_iff] at *; exact fun q hq=>h q (p.subset hq)
 ·rw[srM_iff] at *; exact fun q hq=>h q (p.subset hq)
 ·rw[depM_dl,depM_dl]; exact dlN_perm (p.map _)
 ·rw[cntM_sum,cntM_sum]; exact (p.map _).sum_nat
 ·have:bigM (srtM m)=true↔bigM m=true:=by
   rw[bigM_iff,bigM_iff]
   exact⟨fun ⟨q,h1,h2⟩=>⟨q,p.subset h1,h2⟩,fun ⟨q,h1,h2⟩=>⟨q,p.symm.subset h1,h2⟩⟩
  exact Bool.eq_iff_iff.2 this
 ·refine bool_of ?_
  rw[twM_iff,twM_iff]
  exact⟨fun ⟨h1,h2,h3⟩=>⟨fun q hq=>h1 q (p.symm.subset hq),((p.map _).nodup_iff).1 h2,fun q hq=>h3 q (p.symm.subset hq)⟩,fun ⟨h1,h2,h3⟩=>⟨fun q hq=>h1 q (p.subset hq),((p.map _).nodup_iff).2 h2,fun q hq=>h3 q (p.subset hq)⟩⟩
mutual
def nv:JV→JV
 | .arr l=>.arr (nvL l)
 | .obj m=>.obj (srtM (nvM m))
 | .nul=>.nul
 | .tt=>.tt
 | .ff=>.ff
 | .num l=>.num l
 | .str l=>.str l
def nvL:JL→JL
 | .nil=>.nil
 | .cons v r=>.cons (nv v) (nvL r)
def nvM:JM→JM
 | .nil=>.nil
 | .cons k v r=>.cons k (nv v) (nvM r)
end
structure NF (a b:JV) : Prop where
 ct:ct a=ct b
 rd:rdV b→rdV a
 sr:srV a
 dep:depV a=depV b
 cnt:cntV a=cntV b
 big:bigV a=bigV b
 tw:twV a=twV b
theorem NF.leaf {v:JV} (h:srV v) : NF v v:=⟨rfl,id,h,rfl,rfl,rfl,rfl⟩
mutual
theorem nv_nf:∀ v:JV,NF (nv v) v
 | .nul=>by rw[nv]; exact NF.leaf (by rw[srV]; trivial; all_goals simp)
 | .tt=>by rw[nv]; exact NF.leaf (by rw[srV]; trivial; all_goals simp)
 | .ff=>by rw[nv]; exact NF.leaf (by rw[srV]; trivial; all_goals simp)
 | .num l=>by rw[nv]; exact NF.leaf (by rw[srV]; trivial; all_goals simp)
 | .str l=>by rw[nv]; exact NF.leaf (by rw[srV]; trivial; all_goals simp)
 | .arr l=>by
  obtain⟨h1,h2,h3,h4,h5,h6,h7⟩:=nv_nfL l
  rw[nv]
  exact⟨by rw[Go.Proofs.YtocnekbedcnmgaaGreatDoor.ct,Go.Proofs.YtocnekbedcnmgaaGreatDoor.ct,h1],fun h=>by rw[rdV] at *; exact h2 h,by rw[srV]; exact h3,by rw[depV,depV,h4],by rw[cntV,cntV,h5],by rw[bigV,bigV,h6],by rw[twV,twV,h7]⟩
 | .obj m=>by
  obtain⟨h1,h2,h3,h4,h5,h6,h7⟩:=nv_nfM m
  obtain⟨g1,g2,g3,g4,g5,g6⟩:=srtM_facts (nvM m)
  rw[nv]
  exact⟨by rw[Go.Proofs.YtocnekbedcnmgaaGreatDoor.ct,Go.Proofs.YtocnekbedcnmgaaGreatDoor.ct,srtM_ct,isort_twice,h1],fun h=>by rw[rdV] at *; exact g1 (h2 h),by rw[srV,srtM_ct,isort_twice]; exact⟨g2 h3,rfl⟩,by rw[depV,depV,g3,h4],by rw[cntV,cntV,g4,h5],by rw[bigV,bigV,g5,h6],by rw[twV,twV,g6,h7]⟩
theorem nv_nfL:∀ l:JL,ctL (nvL l)=ctL l∧(rdL l→rdL (nvL l))∧srL (nvL l)∧depL (nvL l)=depL l∧cntL (nvL l)=cntL l∧bigL (nvL l)=bigL l∧twL (nvL l)=twL l
 | .nil=>by rw[nvL,srL]; exact⟨rfl,id,trivial,rfl,rfl,rfl,rfl⟩
 | .cons v r=>by
  have h:=nv_nf v
  obtain⟨h1,h2,h3,h4,h5,h6,h7⟩:=nv_nfL r
  rw[nvL]
  exact⟨by rw[ctL,ctL,h.ct,h1],fun q=>by rw[rdL] at *; exact⟨h.rd q.1,h2 q.2⟩,by rw[srL]; exact⟨h.sr,h3⟩,by rw[depL,depL,h.dep,h4],by rw[cntL,cntL,h.cnt,h5],by rw[bigL,bigL,h.big,h6],by rw[twL,twL,h.tw,h7]⟩
theorem nv_nfM:∀ m:JM,ctM (nvM m)=ctM m∧(rdM m→rdM (nvM m))∧srM (nvM m)∧depM (nvM m)=depM m∧cntM (nvM m)=cntM m∧bigM (nvM m)=bigM m∧∀ ks,twM ks (nvM m)=twM ks m
 | .nil=>by rw[nvM,srM]; exact⟨rfl,id,trivial,rfl,rfl,rfl,fun _=>rfl⟩
 | .cons k v r=>by
  have h:=nv_nf v
  obtain⟨h1,h2,h3,h4,h5,h6,h7⟩:=nv_nfM r
  rw[nvM]
  exact⟨by rw[ctM,ctM,h.ct,h1],fun q=>by rw[rdM] at *; exact⟨q.1,h.rd q.2.1,h2 q.2.2⟩,by rw[srM]; exact⟨h.sr,h3⟩,by rw[depM,depM,h.dep,h4],by rw[cntM,cntM,h.cnt,h5],by rw[bigM,bigM,h.big,h6],fun ks=>by rw[twM,twM,h.tw,h7]⟩
end
theorem doc_nv {v:JV} (h:rdV v) : docR (strOf (ct v))=some (nv v):=by
 have f:=nv_nf v
 have:=doc_ct (f.rd h) f.sr
 rwa [f.ct] at this
theorem nm_numC {s:ByteArray} {i j:Nat} {l:List UInt8} (h:nm s i=some (l,j)) : numC l:=by
 unfold nm at h
 split at h
 ·rename_i hd
  injection h with h; injection h with h1 h2
  have hlt:nmD s i < s.size:=bt_in (by have:=isDg_iff.1 hd; omega)
  have hE:nmD s i < nmE s i:=by
   unfold nmE
   split
   ·omega
   ·rw[dg_on hd]
    have:=(dg_le (s:=s) (i:=nmD s i+1) (by omega)).1
    omega
  have hall:∀ k,nmD s i≤k→k < nmE s i→isDg (bt s k)=true:=fun k h1 h2=>by
   unfold nmE at h2
   split at h2
   ·have:k=nmD s i:=by omega
    rw[this]; exact hd
   ·exact dg_all h1 h2
  have hz:bt s (nmD s i)=48→cutB s (nmD s i+1) (nmE s i)=[]:=fun e=>by
   unfold nmE
   rw[if_pos e]
   unfold cutB
   simp
  have hb:(s.data.toList.getD (nmD s i) 0).toNat=bt s (nmD s i):=rfl
  have hds:∀ b∈cutB s (nmD s i+1) (nmE s i),isDg b.toNat=true:=fun b hb=>by
   obtain⟨k,k1,k2,k3⟩:=cutB_at hb
   rw[k3]
   exact hall k (by omega) k2
  have hcut:cutB s (nmD s i) (nmE s i)=s.data.toList.getD (nmD s i) 0 :: cutB s (nmD s i+1) (nmE s i):=cutB_head hE hlt
  by_cases h45:bt s i=45
  ·have e:nmD s i=i+1:=by unfold nmD; rw[if_pos h45]
   have hraw:cutB s i (nmE s i)=[45]++s.data.toList.getD (nmD s i) 0 :: cutB s (nmD s i+1) (nmE s i):=by
    rw[cutB_head (by omega) (by omega),← e,hcut]
    have:s.data.toList.getD i 0=45:=UInt8.toNat_inj.1 h45
    rw[this]; rfl
   by_cases h48:bt s (nmD s i)=48
   ·have hl:l=[48]:=by
     rw[← h1,hraw,hz h48]
     have:s.data.toList.getD (nmD s i) 0=48:=UInt8.toNat_inj.1 h48
     rw[this]; rfl
    subst hl
    exact⟨[],[],48,rfl,.inl rfl,rfl,fun b hb=>by simp at hb,fun _=>⟨rfl,rfl⟩⟩
   ·refine⟨[45],_,_,?_,.inr rfl,hd,hds,fun h=>absurd h h48⟩
    rw[← h1,hraw]
    unfold norm0
    rw[if_neg]
    intro e
    simp only[List.cons_append,List.nil_append,List.cons.injEq,true_and] at e
    exact h48 (by rw[← hb,e.1]; rfl)
  ·have e:nmD s i=i:=by unfold nmD; rw[if_neg h45]
   refine⟨[],cutB s (nmD s i+1) (nmE s i),s.data.toList.getD (nmD s i) 0,?_,.inl rfl,hd,hds,fun h=>⟨hz h,rfl⟩⟩
   rw[← h1,List.nil_append,← hcut]
   unfold norm0
   rw[if_neg,e]
   intro e2
   have hcut':=hcut
   rw[e] at hcut'
   rw[hcut'] at e2
   injection e2 with e2 _
   exact h45 (by show (s.data.toList.getD i 0).toNat=45; rw[e2]; rfl)
 ·cases h
theorem p_rdV (s:ByteArray) : ∀ f i,(∀ v j,pv s f i=some (v,j)→rdV v)∧(∀ l j,pa s f i=some (l,j)→rdL l)∧(∀ m j,po s f i=some (m,j)→rdM m)
 | 0,i=>⟨fun v j h=>by simp[pv] at h,fun v j h=>by simp[pa] at h,fun v j h=>by simp[po] at h⟩
 | f+1,i=>by
  refine⟨fun v j h=>?_,fun l j h=>?_,fun m j h=>?_⟩
  ·rw[pv] at h
   split at h
   ·split at h
    ·injection h with h; injection h with hv h; subst hv; rw[rdV,rdL]; trivial
    ·simp only[Option.map_eq_some_iff] at h
     obtain⟨⟨l,k⟩,hk,h⟩:=h
     injection h with hv h
     subst hv; rw[rdV]; exact (p_rdV s f (sk s (i+1))).2.1 l k hk
   ·split at h
    ·split at h
     ·injection h with h; injection h with hv h; subst hv; rw[rdV,rdM]; trivial
     ·simp only[Option.map_eq_some_iff] at h
      obtain⟨⟨l,k⟩,hk,h⟩:=h
      injection h with hv h
      subst hv; rw[rdV]; exact (p_rdV s f (sk s (i+1))).2.2 l k hk
    ·split at h
     ·simp only[Option.map_eq_some_iff] at h
      obtain⟨⟨l,k⟩,hk,h⟩:=h
      injection h with hv h
      subst hv; rw[rdV]; exact strQ_valid hk
     ·split at h
      ·injection h with h; injection h with hv h; subst hv; rw[rdV]; trivial
      ·split at h
       ·injection h with h; injection h with hv h; subst hv; rw[rdV]; trivial
       ·split at h
        ·injection h with h; injection h with hv h; subst hv; rw[rdV]; trivial
        ·simp only[Option.map_eq_some_iff] at h
         obtain⟨⟨l,k⟩,hk,h⟩:=h
         injection h with hv h
         subst hv; rw[rdV]; exact nm_numC hk
  ·rw[pa] at h
   simp only[Option.bind_eq_some_iff] at h
   obtain⟨⟨v,k⟩,hk,h⟩:=h
   have h1:=(p_rdV s f i).1 v k hk
   simp only at h
   split at h
   ·injection h with h; injection h with hv h; subst hv; rw[rdL,rdL]; exact⟨h1,trivial⟩
   ·split at h
    ·simp only[Option.map_eq_some_iff] at h
     obtain⟨⟨l,n⟩,hn,h⟩:=h
     injection h with hv h
     subst hv; rw[rdL]; exact⟨h1,(p_rdV s f _).2.1 l n hn⟩
    ·cases h
  ·rw[po] at h
   simp only[Option.bind_eq_some_iff] at h
   obtain⟨⟨key,a⟩,ha,h⟩:=h
   have h0:=strQ_valid ha
   simp only at h
   split at h
   ·simp only[Option.bind_eq_some_iff] at h
    obtain⟨⟨v,k⟩,hk,h⟩:=h
    have h1:=(p_rdV s f _).1 v k hk
    simp only at h
    split at h
    ·injection h with h; injection h with hv h; subst hv; rw[rdM,rdM]; exact⟨h0,h1,trivial⟩
    ·split at h
     ·simp only[Option.map_eq_some_iff] at h
      obtain⟨⟨l,n⟩,hn,h⟩:=h
      injection h with hv h
      subst hv; rw[rdM]; exact⟨h0,h1,(p_rdV s f _).2.2 l n hn⟩
     ·cases h
   ·cases h
theorem val_rdV {s:ByteArray} {i j:Nat} {v:JV} (h:val s i=some (v,j)) : rdV v:=(p_rdV s _ i).1 v j h
theorem doc_rdV {s:ByteArray} {v:JV} (h:docR s=some v) : rdV v:=by
 unfold docR at h
 cases hv:val s (sk s 0) with
 | none=>rw[hv] at h; simp at h
 | some q=>
  obtain⟨u,j⟩:=q
  rw[hv] at h
  simp only[Option.bind_some] at h
  split at h
  ·injection h with h; subst h; exact val_rdV hv
  ·cases h
theorem endF_uniq {T:ByteArray} : ∀ (f f' op i k k':Nat),endF T f op i=some k→endF T f' op i=some k'→k=k'
 | 0,_,_,_,_,_,h,_=>by simp[endF] at h
 | _+1,0,_,_,_,_,_,h=>by simp[endF] at h
 | f+1,f'+1,op,i,k,k',h,h'=>by
  rw[endF] at h h'
  by_cases hi:i < T.size
  ·rw[if_pos hi] at h h'
   cases hn:nxt T i with
   | none=>rw[hn] at h; simp at h
   | some j=>
    rw[hn] at h h'
    simp only[Option.bind_some] at h h'
    cases ho:op1 (bt T i) op with
    | none=>rw[ho] at h; simp at h
    | some o=>
     rw[ho] at h h'
     simp only[Option.bind_some] at h h'
     by_cases hs:o=0∧stopAt T j=true
     ·rw[if_pos hs] at h h'
      injection h with h; injection h' with h'
      omega
     ·rw[if_neg hs] at h h'
      exact endF_uniq f f' o j k k' h h'
  ·rw[if_neg hi] at h; cases h
def Once (T:ByteArray) (P:List UInt8→Prop) : Prop:=∀ t t',P t→P t'→∀ i m m',T.data.toList.drop i=t++m→Stops m→T.data.toList.drop i=t'++m'→Stops m'→t=t'
theorem once_top (T:ByteArray) : Once T fun t=>TopP T t∧t≠[]:=fun t t' h h' i m m' d s d' s'=>by
 obtain⟨f,hf⟩:=h.1 i m d s
 obtain⟨f',hf'⟩:=h'.1 i m' d' s'
 have:=endF_uniq f f' 0 i _ _ hf hf'
 rw[d] at d'
 exact (List.append_inj d' (by omega)).1
theorem once_mem (T:ByteArray) : Once T fun t=>∃ p:List UInt8×List UInt8,t=memT p∧TopP T p.2∧p.2≠[]∧Lib.validD p.1=true:=by
 rintro t t' ⟨p,rfl,h1,h2,h3⟩ ⟨q,rfl,k1,k2,k3⟩ i m m' d s d' s'
 have d1:T.data.toList.drop i=quoted p.1++(58 :: (p.2++m)):=by rw[d]; simp[memT]
 have d2:T.data.toList.drop i=quoted q.1++(58 :: (q.2++m')):=by rw[d']; simp[memT]
 have e1:=strQ_at p.1 T _ h3 i d1
 have e2:=strQ_at q.1 T _ k3 i d2
 rw[e1] at e2
 injection e2 with e2
 injection e2 with e2 _
 rw[← e2] at d2
 have d3:T.data.toList.drop (i+(quoted p.1).length+1)=p.2++m:=(at_head (T:=T) (c:=58) (drop_past d1)).2.2
 have d4:T.data.toList.drop (i+(quoted p.1).length+1)=q.2++m':=(at_head (T:=T) (c:=58) (drop_past d2)).2.2
 have:=once_top T p.2 q.2 ⟨h1,h2⟩ ⟨k1,k2⟩ _ m m' d3 s d4 s'
 unfold memT
 rw[e2,this]
theorem texts_inj {T:ByteArray} {P:List UInt8→Prop} (hP:Once T P) (hne:∀ t,P t→t≠[]) {cs ds:List (List UInt8)} {a a' c c':UInt8} (h:T.data.toList=a :: (joinC cs++[c])) (h':T.data.toList=a' :: (joinC ds++[c'])) (hc:c.toNat=93∨c.toNat=125) (hc':c'.toNat=93∨c'.toNat=125) (t1:∀ t∈cs,P t) (t2:∀ t∈ds,P t) : cs=ds:=by
 have key:∀ k,k≤cs.length→k≤ds.length→cs.take k=ds.take k:=by
  intro k
  induction k with
  | zero=>intro _ _; simp
  | succ k ih=>
   intro h1 h2
   have e:=ih (by omega) (by omega)
   have d1:=drop_pk h k (by omega)
   have d2:=drop_pk h' k (by omega)
   have ep:pk cs k=pk ds k:=by unfold pk; rw[e]
   rw[← ep] at d2
   have:=hP _ _ (t1 _ (List.getElem_mem (by omega:k < cs.length))) (t2 _ (List.getElem_mem (by omega:k < ds.length))) _ _ _ d1 (stops_tail _ c hc) d2 (stops_tail _ c' hc')
   rw[List.take_succ_eq_append_getElem (by omega),List.take_succ_eq_append_getElem (by omega),e,this]
 have short:∀ {xs ys:List (List UInt8)} {b b' e e':UInt8},T.data.toList=b :: (joinC xs++[e])→T.data.toList=b' :: (joinC ys++[e'])→(∀ t∈ys,P t)→xs.take xs.length=ys.take xs.length→¬ xs.length < ys.length:=by
  intro xs ys b b' e e' hx hy ty hk hlt
  have p1:=pk_end hx
  have p2:=pk_in hy xs.length hlt
  have ep:pk xs xs.length=pk ys xs.length:=by unfold pk; rw[hk]
  have hn:=hne _ (ty _ (List.getElem_mem hlt))
  have:1≤(ys[xs.length]).length:=by
   cases hq:ys[xs.length] with
   | nil=>exact absurd hq hn
   | cons _ _=>simp
  omega
 have l1:¬ cs.length < ds.length:=fun hl=>short h h' t2 (key _ (Nat.le_refl _) (by omega)) hl
 have l2:¬ ds.length < cs.length:=fun hl=>short h' h t1 (key _ (by omega) (Nat.le_refl _)).symm hl
 have el:cs.length=ds.length:=by omega
 have:=key cs.length (Nat.le_refl _) (by omega)
 rwa [List.take_of_length_le (Nat.le_refl _),List.take_of_length_le (by omega)] at this
theorem ct_arr {l m:JL} (hl:okL l) (hm:okL m) (h:ct (.arr l)=ct (.arr m)) : ctL l=ctL m:=by
 have e1:(strOf (ct (.arr l))).data.toList=91 :: (joinC (ctL l)++[93]):=by rw[strOf_toList]; rfl
 have e2:(strOf (ct (.arr l))).data.toList=91 :: (joinC (ctL m)++[93]):=by rw[strOf_toList,h]; rfl
 exact texts_inj (once_top _) (fun t ht=>ht.2) e1 e2 (.inl rfl) (.inl rfl) (ctL_top _ l hl) (ctL_top _ m hm)
theorem memT_inj {p q:List UInt8×List UInt8} (hp:Lib.validD p.1=true) (hq:Lib.validD q.1=true) (h:memT p=memT q) : p=q:=by
 have d1:(strOf (memT p)).data.toList.drop 0=quoted p.1++(58 :: p.2):=by rw[strOf_toList]; rfl
 have d2:(strOf (memT p)).data.toList.drop 0=quoted q.1++(58 :: q.2):=by rw[strOf_toList,h]; rfl
 have e1:=strQ_at p.1 _ _ hp 0 d1
 have e2:=strQ_at q.1 _ _ hq 0 d2
 rw[e1] at e2
 injection e2 with e2
 injection e2 with e2 _
 rw[d1,e2] at d2
 have:=List.append_cancel_left d2
 injection this with _ this
 exact Prod.ext e2 this
theorem map_memT_inj:∀ {ps qs:List (List UInt8×List UInt8)},(∀ p∈ps,Lib.validD p.1=true)→(∀ p∈qs,Lib.validD p.1=true)→ps.map memT=qs.map memT→ps=qs
 | [],[],_,_,_=>rfl
 | [],_ :: _,_,_,h=>by simp at h
 | _ :: _,[],_,_,h=>by simp at h
 | p :: ps,q :: qs,h1,h2,h=>by
  rw[List.map_cons,List.map_cons] at h
  injection h with a b
  rw[memT_inj (h1 p List.mem_cons_self) (h2 q List.mem_cons_self) a,map_memT_inj (fun x hx=>h1 x (List.mem_cons_of_mem _ hx)) (fun x hx=>h2 x (List.mem_cons_of_mem _ hx)) b]
theorem ct_obj {k m:JM} (hk:okM k) (hm:okM m) (h:ct (.obj k)=ct (.obj m)) : isort (ctM k)=isort (ctM m):=by
 have e1:(strOf (ct (.obj k))).data.toList=123 :: (joinC ((isort (ctM k)).map memT)++[125]):=by rw[strOf_toList]; rfl
 have e2:(strOf (ct (.obj k))).data.toList=123 :: (joinC ((isort (ctM m)).map memT)++[125]):=by rw[strOf_toList,h]; rfl
 have g1:=fun p (hp:p∈isort (ctM k))=>ctM_top (strOf (ct (.obj k))) k hk p ((isort_perm _).subset hp)
 have g2:=fun p (hp:p∈isort (ctM m))=>ctM_top (strOf (ct (.obj k))) m hm p ((isort_perm _).subset hp)
 have:=texts_inj (once_mem _) (fun t ht=>by obtain⟨p,rfl,_⟩:=ht; simp[memT,quoted]) e1 e2 (.inr rfl) (.inr rfl)
  (fun t ht=>by obtain⟨p,hp,rfl⟩:=List.mem_map.1 ht; exact⟨p,rfl,g1 p hp⟩) (fun t ht=>by obtain⟨p,hp,rfl⟩:=List.mem_map.1 ht; exact⟨p,rfl,g2 p hp⟩)
 exact map_memT_inj (fun p hp=>(g1 p hp).2.2) (fun p hp=>(g2 p hp).2.2) this
theorem quoted_inj {a b:List UInt8} (ha:Lib.validD a=true) (hb:Lib.validD b=true) (h:quoted a=quoted b) : a=b:=by
 have:=memT_inj (p:=(a,[])) (q:=(b,[])) ha hb (by unfold memT; simp only; rw[h])
 injection this
def kd:JV→Nat
 | .nul=>0 | .tt=>1 | .ff=>2 | .num _=>3 | .str _=>4 | .arr _=>5 | .obj _=>6
def fb (c:Nat) : Nat:=if c=110 then 0 else if c=116 then 1 else if c=102 then 2 else if c=34 then 4 else if c=91 then 5 else if c=123 then 6 else 3
theorem ct_fb {v:JV} (h:okV v) : ∃ c r,ct v=c :: r∧fb c.toNat=kd v:=by
 cases v with
 | nul=>exact⟨_,_,rfl,rfl⟩
 | tt=>exact⟨_,_,rfl,rfl⟩
 | ff=>exact⟨_,_,rfl,rfl⟩
 | num l=>
  rw[okV] at h
  obtain⟨c,r,rfl,hc,_⟩:=h
  refine⟨c,r,rfl,?_⟩
  have:c.toNat=45∨(48≤c.toNat∧c.toNat≤57):=hc.imp id isDg_iff.1
  unfold fb kd
  repeat (rw[if_neg (by omega)])
 | str l=>exact⟨_,_,rfl,rfl⟩
 | arr l=>exact⟨_,_,rfl,rfl⟩
 | obj m=>exact⟨_,_,rfl,rfl⟩
theorem ct_kd {a b:JV} (ha:okV a) (hb:okV b) (h:ct a=ct b) : kd a=kd b:=by
 obtain⟨c,r,e,f⟩:=ct_fb ha
 obtain⟨c',r',e',f'⟩:=ct_fb hb
 rw[e,e'] at h
 injection h with h _
 rw[← f,← f',h]
def leafEq:JV→JV→Bool
 | .nul,.nul=>true
 | .tt,.tt=>true
 | .ff,.ff=>true
 | .num a,.num b=>a == b
 | .str a,.str b=>a == b
 | _,_=>false
theorem leaf_ct {a b:JV} (h:leafEq a b=true) : ct a=ct b:=by
 unfold leafEq at h
 split at h <;> first | rfl | (rw[beq_iff_eq] at h; rw[h]) | cases h
theorem ct_leaf {a b:JV} (ha:okV a) (hb:okV b) (h:ct a=ct b) : leafEq a b=true∨(∃ l m,a = .arr l∧b = .arr m)∨∃ k m,a = .obj k∧b = .obj m:=by
 have hk:=ct_kd ha hb h
 cases a with
 | nul=>cases b <;> first | exact .inl rfl | (simp[kd] at hk)
 | tt=>cases b <;> first | exact .inl rfl | (simp[kd] at hk)
 | ff=>cases b <;> first | exact .inl rfl | (simp[kd] at hk)
 | num l=>cases b with
  | num m=>left; have:l=m:=h; simp[leafEq,this]
  | _=>simp[kd] at hk
 | str l=>cases b with
  | str m=>left; rw[okV] at ha hb; have:l=m:=quoted_inj ha hb h; simp[leafEq,this]
  | _=>simp[kd] at hk
 | arr l=>cases b with
  | arr m=>exact .inr (.inl ⟨l,m,rfl,rfl⟩)
  | _=>simp[kd] at hk
 | obj l=>cases b with
  | obj m=>exact .inr (.inr ⟨l,m,rfl,rfl⟩)
  | _=>simp[kd] at hk
theorem qB_hi {c:UInt8} (h:128≤c.toNat) : qB c=[c]:=by
 unfold qB
 rw[if_neg (by omega),if_neg (by omega),if_neg (by omega),if_neg (by omega),if_neg (by omega),if_neg (by omega),if_neg (by omega)]
theorem qs_hi:∀ {l:List UInt8},(∀ c∈l,128≤c.toNat)→qs l=l
 | [],_=>rfl
 | c :: r,h=>by
  have h1:=qs_hi (l:=r) fun x hx=>h x (List.mem_cons_of_mem _ hx)
  have h2:=qB_hi (h c List.mem_cons_self)
  show qB c++qs r=c :: r
  rw[h1,h2]; rfl
theorem u8_hi {x:Int} (h0:128≤x) (h1:x≤255) : 128≤(x.toNat.toUInt8).toNat:=by
 have:(x.toNat.toUInt8).toNat=x.toNat % 256:=rfl
 rw[this]
 omega
theorem enc_hi {r:Nat} (h:128≤r) (h2:r≤1114111) : (∀ c∈enc r,128≤c.toNat)∧(r≤2047→(enc r).length=2)∧(r≤65535→(enc r).length≤3):=by
 unfold enc Lib.encodeRune
 by_cases a:r≤2047
 ·rw[Lib.encodeRuneZ_two (by omega) (by omega)]
  refine⟨fun c hc=>?_,fun _=>rfl,fun _=>by simp⟩
  simp only[List.map_cons,List.map_nil,List.mem_cons,List.not_mem_nil,or_false] at hc
  rcases hc with rfl | rfl <;> exact u8_hi (by omega) (by omega)
 ·by_cases b:(2048≤(r:Int)∧(r:Int) < 55296)∨(57343 < (r:Int)∧(r:Int)≤65535)
  ·rw[Lib.encodeRuneZ_three b]
   refine⟨fun c hc=>?_,fun h=>absurd h a,fun _=>by simp⟩
   simp only[List.map_cons,List.map_nil,List.mem_cons,List.not_mem_nil,or_false] at hc
   rcases hc with rfl | rfl | rfl <;> exact u8_hi (by omega) (by omega)
  ·by_cases d:65536≤r
   ·rw[Lib.encodeRuneZ_four (by omega) (by omega)]
    refine⟨fun c hc=>?_,fun h=>absurd h a,fun h=>by omega⟩
    simp only[List.map_cons,List.map_nil,List.mem_cons,List.not_mem_nil,or_false] at hc
    rcases hc with rfl | rfl | rfl | rfl <;> exact u8_hi (by omega) (by omega)
   ·have e:Lib.encodeRuneZ (r:Int)=[239,191,189]:=by
     unfold Lib.encodeRuneZ
     rw[if_neg (by omega),if_neg (by omega),if_neg b,if_neg (by omega)]
    rw[e]
    refine⟨fun c hc=>?_,fun h=>absurd h a,fun _=>by simp⟩
    simp only[List.map_cons,List.map_nil,List.mem_cons,List.not_mem_nil,or_false] at hc
    rcases hc with rfl | rfl | rfl <;> exact u8_hi (by omega) (by omega)
theorem qs_enc6 {r:Nat} (h:r≤1114111) : (qs (enc r)).length≤6∧(65536≤r→(qs (enc r)).length≤12):=by
 by_cases a:r < 128
 ·rw[enc_lo a]
  have:=qB_le (UInt8.ofNat r)
  have e:qs [UInt8.ofNat r]=qB (UInt8.ofNat r):=by simp[qs]
  rw[e]
  omega
 ·obtain⟨h1,_,h3⟩:=enc_hi (by omega) h
  rw[qs_hi h1]
  have:=enc_le r
  omega
theorem piece_sharp {s:ByteArray} {i r n:Nat} (h:piece s i=some (r,n)) (h34:bt s i≠34) : (qs (enc r)).length≤n:=by
 have hok:=piece_ok h
 unfold piece at h
 split at h
 ·unfold escP at h
  split at h
  ·rename_i v hv
   injection h with h; injection h with h1 h2
   subst h1; subst h2
   have hv2:v=34∨v=92∨v=47∨v=8∨v=12∨v=10∨v=13∨v=9:=by
    unfold smp at hv
    repeat' split at hv
    all_goals first | (injection hv with hv; omega) | cases hv
   rcases hv2 with rfl | rfl | rfl | rfl | rfl | rfl | rfl | rfl <;> decide
  ·simp only[Option.bind_eq_some_iff] at h
   obtain⟨u,hu,h⟩:=h
   have hq:=(qs_enc6 hok.2.2).1
   unfold escU at h
   split at h
   ·injection h with h; injection h with h1 h2; omega
   ·split at h
    ·cases h
    ·simp only[Option.bind_eq_some_iff] at h
     obtain⟨v,hv,h⟩:=h
     split at h
     ·injection h with h; injection h with h1 h2; omega
     ·cases h
 ·split at h
  ·cases h
  ·split at h
   ·rename_i h92 h32 h128
    injection h with h; injection h with h1 h2
    subst h1; subst h2
    rw[enc_lo h128]
    have e:qs [UInt8.ofNat (bt s i)]=qB (UInt8.ofNat (bt s i)):=by simp[qs]
    have et:(UInt8.ofNat (bt s i)).toNat=bt s i:=by rw[UInt8.toNat_ofNat']; omega
    rw[e]
    unfold qB
    rw[et,if_neg (by omega),if_neg (by omega),if_neg (by omega),if_neg (by omega),if_neg (by omega),if_neg (by omega),if_neg (by omega)]
    simp
   ·split at h
    ·cases h
    ·rename_i h92 h32 h128 hrl
     injection h with h; injection h with h1 h2
     have hi:i < s.size:=bt_in (by omega)
     have h8:¬ s[i].toNat < 128:=by rw[← bt_at s i hi]; exact h128
     obtain⟨m1,m2,_,_⟩:=enc_multi s i hi hrl h8
     subst h1; subst h2
     unfold enc
     rw[m1,qs_hi m2,List.length_take]
     omega
theorem strR_sharp {s:ByteArray} : ∀ {i j:Nat} {l:List UInt8},strR s i=some (l,j)→(qs l).length+i+1≤j:=by
 intro i
 generalize hn:s.size - i=n
 induction n using Nat.strongRecOn generalizing i with
 | _ n ih=>
  intro j l h
  by_cases h34:bt s i=34
  ·rw[strR_end h34] at h
   injection h with h; injection h with h1 h2
   subst h1; simp[qs]; omega
  ·cases hp:piece s i with
   | none=>rw[strR_bad h34 hp] at h; cases h
   | some p=>
    obtain⟨r,n'⟩:=p
    have hk:=piece_ok hp
    have he:=piece_sharp hp h34
    rw[strR_go h34 hp] at h
    rcases hq:strR s (i+n') with _ | ⟨l2,j2⟩
    ·rw[hq] at h; cases h
    ·rw[hq] at h
     injection h with h; injection h with h1 h2
     have:=ih (s.size - (i+n')) (by omega) rfl hq
     subst h1
     show (qs (enc r++l2)).length+i+1≤j
     rw[qs_app,List.length_append]
     simp only at h2
     omega
theorem strQ_sharp {s:ByteArray} {i j:Nat} {l:List UInt8} (h:strQ s i=some (l,j)) : (quoted l).length+i≤j:=by
 unfold strQ at h
 split at h
 ·have:=strR_sharp h
  unfold quoted
  simp only[List.length_cons,List.length_append,List.length_nil]
  omega
 ·cases h
theorem joinC_sh (l:List (List UInt8)) (h:l≠[]) : (joinC l).length+1=(l.map fun t=>t.length+1).sum:=by
 cases l with
 | nil=>exact absurd rfl h
 | cons t r=>
  rw[joinC,List.length_append,joinT_len,List.map_cons,List.sum_cons]
  omega
theorem mkO_sh (l:List (List UInt8×List UInt8)) (h:l≠[]) : (mkO (isort l)).length=sumT l+1:=by
 have h1:=(isort_perm l)
 have hne:(isort l).map memT≠[]:=by
  intro e
  rw[List.map_eq_nil_iff] at e
  rw[e] at h1
  exact h h1.symm.eq_nil
 have h2:=joinC_sh ((isort l).map memT) hne
 have h3:=sumT_isort l
 unfold sumT at *
 rw[List.map_map] at h2
 unfold mkO
 simp only[List.length_cons,List.length_append,List.length_nil]
 have h4:((isort l).map ((fun t=>t.length+1)∘memT)).sum=((isort l).map fun p=>(memT p).length+1).sum:=rfl
 omega
theorem p_sharp (s:ByteArray) : ∀ f i,(∀ v j,pv s f i=some (v,j)→(ct v).length+i≤j)∧(∀ l j,pa s f i=some (l,j)→ctL l≠[]∧((ctL l).map fun t=>t.length+1).sum+i≤j)∧(∀ m j,po s f i=some (m,j)→ctM m≠[]∧sumT (ctM m)+i≤j)
 | 0,i=>⟨fun v j h=>by simp[pv] at h,fun v j h=>by simp[pa] at h,fun v j h=>by simp[po] at h⟩
 | f+1,i=>by
  refine⟨fun v j h=>?_,fun l j h=>?_,fun m j h=>?_⟩
  ·have hok:=(p_ok s (f+1) i).1 v j h
   rw[pv] at h
   have g:=sk_ge s (i+1)
   split at h
   ·split at h
    ·injection h with h; injection h with h0 h
     subst h0
     simp[ct,ctL,mkA,joinC]; omega
    ·simp only[Option.map_eq_some_iff] at h
     obtain⟨⟨l,k⟩,hk,h⟩:=h
     injection h with h0 h
     have h1:=(p_sharp s f (sk s (i+1))).2.1 l k hk
     have h2:=(p_ok s f (sk s (i+1))).2.1 l k hk
     have h3:=joinC_sh (ctL l) h1.1
     have h1:=h1.2
     subst h0
     simp only[ct,mkA,List.length_cons,List.length_append,List.length_nil]
     simp only at h; omega
   ·split at h
    ·split at h
     ·injection h with h; injection h with h0 h
      subst h0
      simp[ct,ctM,mkO,isort,joinC]; omega
     ·simp only[Option.map_eq_some_iff] at h
      obtain⟨⟨l,k⟩,hk,h⟩:=h
      injection h with h0 h
      have h1:=(p_sharp s f (sk s (i+1))).2.2 l k hk
      have h2:=(p_ok s f (sk s (i+1))).2.2 l k hk
      have h3:=mkO_sh (ctM l) h1.1
      have h1:=h1.2
      subst h0
      simp only[ct]
      simp only at h; omega
    ·split at h
     ·simp only[Option.map_eq_some_iff] at h
      obtain⟨⟨l,k⟩,hk,h⟩:=h
      injection h with h0 h
      have h1:=strQ_sharp hk
      subst h0
      simp only[ct]
      simp only at h; omega
     ·split at h
      ·injection h with h; injection h with h0 h
       subst h0; simp[ct]; omega
      ·split at h
       ·injection h with h; injection h with h0 h
        subst h0; simp[ct]; omega
       ·split at h
        ·injection h with h; injection h with h0 h
         subst h0; simp[ct]; omega
        ·simp only[Option.map_eq_some_iff] at h
         obtain⟨⟨l,k⟩,hk,h⟩:=h
         injection h with h0 h
         have h1:=nm_len hk
         subst h0
         simp only[ct]
         simp only at h; omega
  ·rw[pa] at h
   simp only[Option.bind_eq_some_iff] at h
   obtain⟨⟨v,k⟩,hk,h⟩:=h
   have h1:=(p_ok s f i).1 v k hk
   have h1':=(p_sharp s f i).1 v k hk
   have g1:=sk_ge s k
   simp only at h
   split at h
   ·injection h with h; injection h with h0 h
    subst h0
    refine⟨by simp[ctL],?_⟩
    simp[ctL]; omega
   ·split at h
    ·simp only[Option.map_eq_some_iff] at h
     obtain⟨⟨l,n⟩,hn,h⟩:=h
     injection h with h0 h
     have h2:=(p_ok s f _).2.1 l n hn
     have h2':=(p_sharp s f _).2.1 l n hn
     have g2:=sk_ge s (sk s k+1)
     subst h0
     refine⟨by simp[ctL],?_⟩
     simp only[ctL,List.map_cons,List.sum_cons]
     simp only at h; omega
    ·cases h
  ·rw[po] at h
   simp only[Option.bind_eq_some_iff] at h
   obtain⟨⟨key,a⟩,ha,h⟩:=h
   have h0:=strQ_ok ha
   have h0':=strQ_sharp ha
   simp only at h
   split at h
   ·simp only[Option.bind_eq_some_iff] at h
    obtain⟨⟨v,k⟩,hk,h⟩:=h
    have h1:=(p_ok s f _).1 v k hk
    have h1':=(p_sharp s f _).1 v k hk
    have g0:=sk_ge s a
    have g3:=sk_ge s (sk s a+1)
    have g1:=sk_ge s k
    simp only at h
    split at h
    ·injection h with h; injection h with h0 h
     subst h0
     refine⟨by simp[ctM],?_⟩
     simp[ctM,sumT,memT]; omega
    ·split at h
     ·simp only[Option.map_eq_some_iff] at h
      obtain⟨⟨l,n⟩,hn,h⟩:=h
      injection h with h0 h
      have h2:=(p_ok s f _).2.2 l n hn
      have h2':=(p_sharp s f _).2.2 l n hn
      have g2:=sk_ge s (sk s k+1)
      subst h0
      have e:sumT (ctM (.cons key v l))=(memT (key,ct v)).length+1+sumT (ctM l):=by simp[ctM,sumT]
      have e2:(memT (key,ct v)).length=(quoted key).length+1+(ct v).length:=by simp[memT]; omega
      refine⟨by simp[ctM],?_⟩
      simp only at h ⊢
      omega
     ·cases h
   ·cases h
theorem val_sharp {s:ByteArray} {i j:Nat} {v:JV} (h:val s i=some (v,j)) : (ct v).length+i≤j:=(p_sharp s _ i).1 v j h
theorem doc_sharp {s:ByteArray} {v:JV} (h:docR s=some v) : (ct v).length≤s.size:=by
 unfold docR at h
 cases hv:val s (sk s 0) with
 | none=>rw[hv] at h; simp at h
 | some q=>
  rw[hv] at h
  simp only[Option.bind_some] at h
  split at h
  ·rename_i hs
   injection h with h
   subst h
   have h1:=val_sharp (v:=q.1) (j:=q.2) hv
   have h2:=sk_ge s q.2
   omega
  ·cases h
theorem decT_le:∀ (k n:Nat),n < 10 ^ (k+1)→(decT n).length≤k+1:=by
 intro k
 induction k with
 | zero=>intro n hn; rw[decT_lo (by omega)]; simp
 | succ k ih=>
  intro n hn
  by_cases h:n < 10
  ·rw[decT_lo h]; simp
  ·rw[decT_hi h,List.length_append]
   have h1:=ih (n / 10) (by rw[Nat.pow_succ] at hn; omega)
   rw[decT_lo (n:=n % 10) (by omega)]
   simp; omega
end Go.Proofs.YtocnekbedcnmgaaGreatDoor
namespace Go.Proofs.YtocnekbedcnmgaaGreatDoor
open Go.RowKit Go.Lib
def dV (c:UInt8) : Nat:=c.toNat - 48
def foldV (a:Nat) (d:List UInt8) : Nat:=d.foldl (fun a c=>a*10+dV c) a
def Dg (d:List UInt8) : Prop:=∀ c∈d,48≤c.toNat∧c.toNat≤57
def Num (d:List UInt8) : Prop:=Dg d∧d≠[]∧(d=[48]∨∀ c r,d=c :: r→49≤c.toNat)
theorem Dg.tail {c:UInt8} {d:List UInt8} (h:Dg (c :: d)) : Dg d:=fun x hx=>h x (List.mem_cons_of_mem _ hx)
theorem Dg.head {c:UInt8} {d:List UInt8} (h:Dg (c :: d)) : 48≤c.toNat∧c.toNat≤57:=h c List.mem_cons_self
theorem foldV_cons (a:Nat) (c:UInt8) (d:List UInt8) : foldV a (c :: d)=foldV (a*10+dV c) d:=by unfold foldV; rw[List.foldl_cons]
theorem foldV_snoc (a:Nat) (d:List UInt8) (c:UInt8) : foldV a (d++[c])=foldV a d*10+dV c:=by unfold foldV; rw[List.foldl_append]; rfl
theorem foldV_ge (d:List UInt8) : ∀ a,a≤foldV a d:=by
 induction d with
 | nil=>intro a; exact Nat.le_refl _
 | cons c d ih=>intro a; rw[foldV_cons]; have:=ih (a*10+dV c); omega
theorem foldV_lin (d:List UInt8) : ∀ a,foldV a d=a*10 ^ d.length+foldV 0 d:=by
 induction d with
 | nil=>intro a; simp[foldV]
 | cons c d ih=>
  intro a
  rw[foldV_cons,foldV_cons,ih (a*10+dV c),ih (0*10+dV c),List.length_cons,Nat.pow_succ]
  rw[Nat.add_mul,Nat.zero_mul,Nat.zero_add,Nat.mul_assoc,Nat.mul_comm 10,Nat.add_assoc]
theorem foldV_lt (d:List UInt8) (h:Dg d) : foldV 0 d < 10 ^ d.length:=by
 induction d with
 | nil=>simp[foldV]
 | cons c d ih=>
  rw[foldV_cons,foldV_lin,List.length_cons,Nat.pow_succ]
  have h1:=ih h.tail
  have h2:=h.head
  have h3:dV c≤9:=by unfold dV; omega
  have h4:(0*10+dV c)*10 ^ d.length≤9*10 ^ d.length:=Nat.mul_le_mul_right _ (by omega)
  omega
theorem foldV_low {c:UInt8} {d:List UInt8} (hc:49≤c.toNat) : 10 ^ d.length≤foldV 0 (c :: d):=by
 rw[foldV_cons,foldV_lin]
 have:1*10 ^ d.length≤(0*10+dV c)*10 ^ d.length:=Nat.mul_le_mul_right _ (by unfold dV; omega)
 omega
theorem parse_fold (d:List UInt8) (h:Dg d) : ∀ a,a≤18446744073709551615→parseUintM 18446744073709551615 a d=if foldV a d≤18446744073709551615 then .ok (foldV a d) else .range:=by
 induction d with
 | nil=>intro a ha; rw[parseUintM]; rw[if_pos (by exact ha)]; rfl
 | cons c d ih=>
  intro a ha
  rw[parseUintM,if_pos h.head,foldV_cons]
  have hg:=foldV_ge d (a*10+dV c)
  have e:a*10+(c.toNat - 48)=a*10+dV c:=rfl
  by_cases h1:1844674407370955162≤a
  ·rw[if_pos h1,if_neg (by omega)]
  ·rw[if_neg h1,e]
   by_cases h2:18446744073709551615 < a*10+dV c
   ·rw[if_pos h2,if_neg (by omega)]
   ·rw[if_neg h2]
    exact ih h.tail _ (by omega)
theorem less_fold:∀ (a b:List UInt8),Dg a→Dg b→a.length=b.length→(Op.bytesLess a b=decide (foldV 0 a < foldV 0 b))∧((a == b)=decide (foldV 0 a=foldV 0 b))
 | [],[],_,_,_=>by simp[Op.bytesLess,foldV]
 | [],_ :: _,_,_,h=>by simp at h
 | _ :: _,[],_,_,h=>by simp at h
 | c :: a,x :: b,ha,hb,h=>by
  have hl:a.length=b.length:=by simpa using h
  obtain⟨i1,i2⟩:=less_fold a b ha.tail hb.tail hl
  have a1:=foldV_lt a ha.tail
  have b1:=foldV_lt b hb.tail
  have hc:=ha.head
  have hx:=hb.head
  rw[foldV_cons,foldV_cons,foldV_lin a,foldV_lin b,hl]
  rw[hl] at a1
  have ec:0*10+dV c=dV c:=by omega
  have ex:0*10+dV x=dV x:=by omega
  rw[ec,ex]
  generalize foldV 0 a=A at *
  generalize foldV 0 b=B at *
  generalize 10 ^ b.length=P at *
  have hcx:c < x↔dV c < dV x:=by rw[UInt8.lt_iff_toNat_lt]; unfold dV; omega
  have hce:c=x↔dV c=dV x:=by rw[← UInt8.toNat_inj]; unfold dV; omega
  rw[Op.bytesLess]
  by_cases g1:dV c < dV x
  ·have:(dV c+1)*P≤dV x*P:=Nat.mul_le_mul_right _ g1
   rw[Nat.add_mul,Nat.one_mul] at this
   refine⟨?_,?_⟩
   ·rw[decide_eq_true (hcx.2 g1),Bool.true_or,decide_eq_true (by omega)]
   ·rw[decide_eq_false (by omega),beq_eq_false_iff_ne]
    intro e; injection e with e1 e2; have:=hce.1 e1; omega
  ·by_cases g2:dV c=dV x
   ·have hcq:(c == x)=true:=by rw[beq_iff_eq]; exact hce.2 g2
    rw[decide_eq_false (fun hh=>g1 (hcx.1 hh)),Bool.false_or,hcq,Bool.true_and,i1,g2]
    refine⟨?_,?_⟩
    ·apply decide_eq_decide.2; omega
    ·rw[hce.2 g2]
     rw[show ((x :: a) == (x :: b))=(a == b) from by simp,i2]
     apply decide_eq_decide.2; omega
   ·have:(dV x+1)*P≤dV c*P:=Nat.mul_le_mul_right _ (by omega)
    rw[Nat.add_mul,Nat.one_mul] at this
    have hcq:(c == x)=false:=by rw[beq_eq_false_iff_ne]; exact fun e=>g2 (hce.1 e)
    refine⟨?_,?_⟩
    ·rw[decide_eq_false (fun hh=>g1 (hcx.1 hh)),Bool.false_or,hcq,Bool.false_and,decide_eq_false (by omega)]
    ·rw[decide_eq_false (by omega),beq_eq_false_iff_ne]
     intro e; injection e with e1 e2; exact g2 (hce.1 e1)
theorem Num.bounds {d:List UInt8} (h:Num d) : (d.length≤18→foldV 0 d < 1000000000000000000)∧(20≤d.length→10000000000000000000≤foldV 0 d):=by
 obtain⟨h1,h2,h3⟩:=h
 refine⟨fun hl=>?_,fun hl=>?_⟩
 ·have:=foldV_lt d h1
  have h4:10 ^ d.length≤10 ^ 18:=Nat.pow_le_pow_right (by decide) hl
  have h5:(10:Nat) ^ 18=1000000000000000000:=by decide
  omega
 ·rcases h3 with rfl | h3
  ·simp at hl
  ·cases d with
   | nil=>simp at hl
   | cons c r=>
    have:=foldV_low (d:=r) (h3 c r rfl)
    have h4:10 ^ 19≤10 ^ r.length:=Nat.pow_le_pow_right (by decide) (by simp at hl; omega)
    have h5:(10:Nat) ^ 19=10000000000000000000:=by decide
    omega
theorem over_lim {d lim:List UInt8} {m:Nat} (h:Num d) (hl:Dg lim) (h19:lim.length=19) (hm:foldV 0 lim=m) (h1:1000000000000000000≤m) (h2:m < 10000000000000000000) : over d lim=decide (m < foldV 0 d):=by
 unfold over
 have hb:=h.bounds
 by_cases hd:d.length=19
 ·rw[if_neg (by omega)]
  obtain⟨i1,i2⟩:=less_fold d lim h.1 hl (by omega)
  rw[i1,i2,hm]
  by_cases g:m < foldV 0 d
  ·rw[decide_eq_true g,decide_eq_false (by omega),decide_eq_false (by omega)]; rfl
  ·rw[decide_eq_false g]
   by_cases g2:foldV 0 d=m
   ·rw[decide_eq_true g2]; simp
   ·rw[decide_eq_true (show foldV 0 d < m by omega)]; rfl
 ·rw[if_pos hd]
  apply decide_eq_decide.2
  constructor
  ·intro g; have:=hb.2 (by omega); omega
  ·intro g
   rcases Nat.lt_or_ge d.length 19 with g2 | g2
   ·have:=hb.1 (by omega); omega
   ·omega
theorem over_0 {d:List UInt8} (h:Num d) : over d lim0=decide (9223372036854775807 < foldV 0 d):=over_lim h (by unfold Dg lim0; decide) rfl (by decide) (by decide) (by decide)
theorem over_1 {d:List UInt8} (h:Num d) : over d lim1=decide (9223372036854775808 < foldV 0 d):=over_lim h (by unfold Dg lim1; decide) rfl (by decide) (by decide) (by decide)
theorem u8_dig {c:UInt8} (h:48≤c.toNat∧c.toNat≤57) : UInt8.ofNat (48+dV c)=c:=by
 apply UInt8.toNat_inj.1
 rw[UInt8.toNat_ofNat']; unfold dV; omega
theorem dec_fold (n:Nat) : ∀ d:List UInt8,d.length=n→Num d→decDigits (foldV 0 d)=d:=by
 induction n with
 | zero=>intro d hn h; exact absurd (List.eq_nil_of_length_eq_zero hn) h.2.1
 | succ n ih=>
  intro d hn h
  obtain⟨h1,h2,h3⟩:=h
  rcases List.eq_nil_or_concat d with e | ⟨d',c,e⟩
  ·exact absurd e h2
  ·rw[List.concat_eq_append] at e
   subst e
   have hc:48≤c.toNat∧c.toNat≤57:=h1 c (by simp)
   have hv:dV c≤9:=by unfold dV; omega
   rw[foldV_snoc]
   cases d' with
   | nil=>
    show decDigits (0*10+dV c)=[c]
    rw[decDigits_one (by omega),show 48+(0*10+dV c)=48+dV c by omega,u8_dig hc]
   | cons x r=>
    have hx:49≤x.toNat:=by
     rcases h3 with h3 | h3
     ·simp at h3
     ·exact h3 x (r++[c]) rfl
    have hlow:=foldV_low (d:=r) hx
    have hp:0 < 10 ^ r.length:=Nat.pow_pos (by decide)
    have hN:Num (x :: r):=⟨fun y hy=>h1 y (by simp at hy ⊢; rcases hy with hy | hy <;> simp[hy]),by simp,.inr (fun a b e=>by injection e with e1 e2; subst e1; exact hx)⟩
    have:=ih (x :: r) (by simp at hn ⊢; omega) hN
    rw[decDigits,dif_neg (by omega),show (foldV 0 (x :: r)*10+dV c) / 10=foldV 0 (x :: r) by omega,show (foldV 0 (x :: r)*10+dV c) % 10=dV c by omega,this,u8_dig hc]
theorem cutB_cons {s:ByteArray} {i j:Nat} (hi:i < s.size) (hj:i < j) : cutB s i j=s[i] :: cutB s (i+1) j:=by
 unfold cutB
 rw[drop_at s i hi,show j - i=(j - (i+1))+1 by omega,List.take_succ_cons]
theorem cutB_nil (s:ByteArray) (i:Nat) : cutB s i i=[]:=by unfold cutB; simp
theorem cut_dg (s:ByteArray) : ∀ n i,s.size - i≤n→Dg (cutB s i (dg s i))
 | n,i,hn=>by
  by_cases h:isDg (bt s i)=true
  ·have hi:i < s.size:=bt_in (by have:=isDg_iff.1 h; omega)
   cases n with
   | zero=>omega
   | succ n=>
    have h2:=dg_le (s:=s) (i:=i+1) (by omega)
    rw[dg_on h,cutB_cons hi (by omega)]
    intro c hc
    rcases List.mem_cons.1 hc with rfl | hc
    ·rw[bt_at s i hi] at h; exact isDg_iff.1 h
    ·exact cut_dg s n (i+1) (by omega) c hc
  ·rw[dg_off h,cutB_nil]; intro c hc; cases hc
theorem nm_digits {s:ByteArray} {i j:Nat} {l:List UInt8} (h:nm s i=some (l,j)) : j=nmE s i∧Num (cutB s (nmD s i) j)∧cutB s i j=(if bt s i=45 then 45 :: cutB s (nmD s i) j else cutB s (nmD s i) j)∧l=norm0 (cutB s i j):=by
 have hk:=nm_ok h
 unfold nm at h
 split at h
 ·rename_i hd
  injection h with h; injection h with h1 h2
  have hdI:=isDg_iff.1 hd
  have hlt:nmD s i < s.size:=bt_in (by omega)
  have hbt:=bt_at s (nmD s i) hlt
  subst h2
  refine⟨rfl,?_,?_,h1.symm⟩
  ·unfold nmE
   split
   ·rename_i h48
    rw[cutB_cons hlt (by omega),cutB_nil]
    have e:s[nmD s i]=48:=UInt8.toNat_inj.1 (by show _=48; omega)
    rw[e]
    exact⟨by unfold Dg; decide,by simp,.inl rfl⟩
   ·rename_i h48
    have h3:=dg_le (s:=s) (i:=nmD s i+1) (by omega)
    refine⟨cut_dg s _ _ (Nat.le_refl _),?_,.inr ?_⟩
    ·rw[dg_on hd,cutB_cons hlt (by omega)]; simp
    ·intro c r e
     rw[dg_on hd,cutB_cons hlt (by omega)] at e
     injection e with e1 e2
     subst e1; omega
  ·by_cases h45:bt s i=45
   ·have hi:i < s.size:=bt_in (by omega)
    have e:s[i]=45:=UInt8.toNat_inj.1 (by show _=45; rw[← bt_at s i hi]; exact h45)
    have hD:nmD s i=i+1:=by unfold nmD; rw[if_pos h45]
    rw[if_pos h45,cutB_cons hi (by omega),e,hD]
   ·have hD:nmD s i=i:=by unfold nmD; rw[if_neg h45]
    rw[if_neg h45,hD]
 ·cases h
theorem norm0_num {d:List UInt8} (h:Num d) : norm0 d=d:=by
 unfold norm0
 rw[if_neg]
 intro e
 have:=h.1 45 (by rw[e]; simp)
 exact absurd this.1 (by decide)
theorem parse_num {d:List UInt8} (h:Num d) : parseUintB 64 d=if foldV 0 d≤18446744073709551615 then .ok (foldV 0 d) else .range:=by
 unfold parseUintB
 rw[if_neg h.2.1]
 exact parse_fold d h.1 0 (by decide)
theorem nm_parse {s:ByteArray} {i j:Nat} {l:List UInt8} (h:nm s i=some (l,j)) :
  (tooBig l=false→∃ z:Int,parseIntB 64 (cutB s i j) = .ok z∧itoa z=l∧-9223372036854775808≤z∧z≤9223372036854775807)∧(tooBig l=true→parseIntB 64 (cutB s i j) = .range):=by
 obtain⟨_,hN,hc,hl⟩:=nm_digits h
 generalize cutB s (nmD s i) j=d at *
 have hp:=parse_num hN
 have hde:=dec_fold d.length d rfl hN
 have p63:(2:Nat) ^ (64 - 1)=9223372036854775808:=by decide
 by_cases h45:bt s i=45
 ·rw[if_pos h45] at hc
  rw[hc] at hl ⊢
  rw[parseIntB_minus,hp]
  by_cases h0:d=[48]
  ·subst h0
   have e:l=[48]:=by rw[hl]; unfold norm0; rw[if_pos rfl]
   subst e
   refine⟨fun _=>⟨0,by decide,by rw[show (0:Int)=((0:Nat) : Int) from rfl,itoa_nonneg,decDigits_one (by decide)]; rfl,by decide,by decide⟩,fun hb=>absurd hb (by decide)⟩
  ·have e:l=45 :: d:=by
    rw[hl]; unfold norm0; rw[if_neg]
    intro e; injection e with _ e; exact h0 e
   subst e
   have ht:tooBig (45 :: d)=decide (9223372036854775808 < foldV 0 d):=by rw[tooBig,if_pos rfl,over_1 hN]
   rw[ht]
   have hpos:1≤foldV 0 d:=by
    obtain⟨h1,h2,h3⟩:=hN
    rcases h3 with h3 | h3
    ·exact absurd h3 h0
    ·cases d with
     | nil=>exact absurd rfl h2
     | cons c r=>
      have:=foldV_low (d:=r) (h3 c r rfl)
      have hp:0 < 10 ^ r.length:=Nat.pow_pos (by decide)
      omega
   refine⟨fun hb=>?_,fun hb=>?_⟩
   ·have hb':=of_decide_eq_false hb
    rw[if_pos (by omega)]
    refine⟨-((foldV 0 d:Nat) : Int),?_,?_,by omega,by omega⟩
    ·show (if 2 ^ (64 - 1) < foldV 0 d then NumEnd.range else .ok (-((foldV 0 d:Nat) : Int)))=_
     rw[if_neg (by omega)]
    ·rw[itoa_neg _ hpos,hde]
   ·have hb':=of_decide_eq_true hb
    by_cases g:foldV 0 d≤18446744073709551615
    ·rw[if_pos g]
     show (if 2 ^ (64 - 1) < foldV 0 d then NumEnd.range else .ok (-((foldV 0 d:Nat) : Int)))=_
     rw[if_pos (by omega)]
    ·rw[if_neg g]; rfl
 ·rw[if_neg h45] at hc
  rw[hc] at hl ⊢
  rw[norm0_num hN] at hl
  subst hl
  cases hd:l with
  | nil=>exact absurd hd hN.2.1
  | cons c r=>
   have hcd:=hN.1 c (by rw[hd]; simp)
   rw[parseIntB_plain 64 c r (by omega) (by omega),← hd,hp]
   have ht:tooBig l=decide (9223372036854775807 < foldV 0 l):=by
    rw[hd,tooBig,if_neg (by intro e; rw[e] at hcd; exact absurd hcd.1 (by decide)),← hd,over_0 hN]
   rw[ht]
   refine⟨fun hb=>?_,fun hb=>?_⟩
   ·have hb':=of_decide_eq_false hb
    rw[if_pos (by omega)]
    refine⟨((foldV 0 l:Nat) : Int),?_,?_,by omega,by omega⟩
    ·show (if 2 ^ (64 - 1)≤foldV 0 l then NumEnd.range else .ok ((foldV 0 l:Nat) : Int))=_
     rw[if_neg (by omega)]
    ·rw[itoa_nonneg,hde]
   ·have hb':=of_decide_eq_true hb
    by_cases g:foldV 0 l≤18446744073709551615
    ·rw[if_pos g]
     show (if 2 ^ (64 - 1)≤foldV 0 l then NumEnd.range else .ok ((foldV 0 l:Nat) : Int))=_
     rw[if_pos (by omega)]
    ·rw[if_neg g]; rfl
end Go.Proofs.YtocnekbedcnmgaaGreatDoor
namespace Go.Proofs.YtocnekbedcnmgaaGreatDoor
open Go.RowKit
theorem hexDigit_walk (b:Nat) (hb:b < 256) (w:World) :
  Calls Tryz.prog 294 #[.int .u8 b] w fun e w'=>w=w'∧e=(hx b).elim mis (fun v=>.returned (.int .i32 v)):=by
 by_cases h1:48≤b∧b≤57
 ·have HH:Hid (hx b=some (b - 48)):=by show _=_; unfold hx; rw[if_pos h1]
  have a1:(48:Int)≤(b:Int):=by omega
  have a2:(b:Int)≤57:=by omega
  clear h1
  go_enter Tryz.func294,Tryz.ntmps294
  go_wp2
  go_ret
  refine⟨rfl,?_⟩
  rw[uh HH]
  exact ret_int (by go_num)
 ·by_cases h2:97≤b∧b≤102
  ·have HH:Hid (hx b=some (b - 87)):=by show _=_; unfold hx; rw[if_neg h1,if_pos h2]
   have a1:(97:Int)≤(b:Int):=by omega
   have a2:(b:Int)≤102:=by omega
   clear h1 h2
   go_enter Tryz.func294,Tryz.ntmps294
   go_wp2
   go_ret
   refine⟨rfl,?_⟩
   rw[uh HH]
   exact ret_int (by go_num)
  ·by_cases h3:65≤b∧b≤70
   ·have HH:Hid (hx b=some (b - 55)):=by show _=_; unfold hx; rw[if_neg h1,if_neg h2,if_pos h3]
    have a1:(65:Int)≤(b:Int):=by omega
    have a2:(b:Int)≤70:=by omega
    clear h1 h2 h3
    go_enter Tryz.func294,Tryz.ntmps294
    go_wp2
    go_ret
    refine⟨rfl,?_⟩
    rw[uh HH]
    exact ret_int (by go_num)
   ·have HH:Hid (hx b=none):=by show _=_; unfold hx; rw[if_neg h1,if_neg h2,if_neg h3]
    clear HH
    have HH:Hid (hx b=none):=by show _=_; unfold hx; rw[if_neg h1,if_neg h2,if_neg h3]
    rcases (show b < 48∨(57 < b∧b < 65)∨(70 < b∧b < 97)∨102 < b from by omega) with g | g | g | g
    ·have a1:(b:Int) < 48:=by omega
     clear h1 h2 h3 g
     go_enter Tryz.func294,Tryz.ntmps294
     go_wp2
     exact⟨rfl,rfl,by rw[uh HH]; rfl⟩
    ·have a1:(57:Int) < (b:Int):=by omega
     have a2:(b:Int) < 65:=by omega
     clear h1 h2 h3 g
     go_enter Tryz.func294,Tryz.ntmps294
     go_wp2
     exact⟨rfl,rfl,by rw[uh HH]; rfl⟩
    ·have a1:(70:Int) < (b:Int):=by omega
     have a2:(b:Int) < 97:=by omega
     clear h1 h2 h3 g
     go_enter Tryz.func294,Tryz.ntmps294
     go_wp2
     exact⟨rfl,rfl,by rw[uh HH]; rfl⟩
    ·have a1:(102:Int) < (b:Int):=by omega
     clear h1 h2 h3 g
     go_enter Tryz.func294,Tryz.ntmps294
     go_wp2
     exact⟨rfl,rfl,by rw[uh HH]; rfl⟩
theorem hexNum_walk (rb:Nat) (s:ByteArray) (i:Nat) (tb kt:Bool) (w:World) (h:Rdr rb s i tb kt w) (hs:s.size≤1048576) (hi:i≤s.size) :
  Calls Tryz.prog 277 #[.pointer (some ⟨rb,0,none⟩)] w (Post rb s tb kt w ((hexN s i 4).map fun v:Nat=>(.int .i32 (v:Int),i+4))):=by
 have H:=hide h
 clear h
 go_enter Tryz.func277,Tryz.ntmps277
 go_wp2
 go_loopw [3,4] (fun n k wr=>∃ j v:Nat,j≤4∧i+j≤s.size∧v < 16 ^ j∧k = .int .i64 j∧n = .int .i32 v∧hexN s i j=some v∧Rdr rb s (i+j) tb kt wr∧KB rb w wr) (fun _ k _=>4 - (intOf k).toNat)
 case atStart=>exact⟨0,0,by omega,by omega,by decide,rfl,rfl,rfl,uh H,KB.refl _ _⟩
 case round=>
  obtain⟨j,v,hj,hij,hv16,rfl,rfl,hv,hr,hk⟩:=hrel
  have HV:=hide hv
  have HR:=hide hr
  clear hv hr
  by_cases h4:j < 4
  ·have hv65:v < 65536:=by
    have:(16:Nat) ^ j≤16 ^ 3:=Nat.pow_le_pow_right (by decide) (by omega)
    omega
   have h4':(j:Int) < 4:=by omega
   by_cases hin:i+j < s.size
   ·have HN:=hide (next_in rb s (i+j) tb kt wr (uh HR) hs hin)
    have HD:=hide (hexDigit_walk (bt s (i+j)) (bt_lt _ _))
    have hvI:(v:Int) < 65536:=by omega
    cases hx1:hx (bt s (i+j)) with
    | some d=>
     have hd:=hx_lt hx1
     have HX:=hide (hexN_next (uh HV) hx1)
     rw[hx1] at HD
     generalize bt s (i+j)=b at *
     clear hx1
     go_wp2_with fail
     refine (uh HN).mono ?_
     rintro e w1 ⟨rfl,r1,k1⟩
     have R1:=hide r1
     clear r1
     go_wp2_with fail
     refine (uh HD _).mono ?_
     rintro e w2 ⟨rfl,rfl⟩
     clear HN HD
     simp only[Option.elim]
     go_wp2
     go_roundw
     case rel=>exact⟨j+1,v*16+d,by omega,by omega,by rw[Nat.pow_succ]; omega,by go_num,by go_num,uh HX,uh R1,hk.trans k1⟩
     case measure=>simp[intOf]; omega
    | none=>
     have HX:Hid (hexN s i 4=none):=hexN_none (hexN_bad hx1) (by omega)
     rw[hx1] at HD
     generalize bt s (i+j)=b at *
     clear hx1
     go_wp2_with fail
     refine (uh HN).mono ?_
     rintro e w1 ⟨rfl,r1,k1⟩
     clear r1
     go_wp2_with fail
     refine (uh HD _).mono ?_
     rintro e w2 ⟨rfl,rfl⟩
     clear HN HD
     exact⟨rfl,hk.trans k1,by rw[uh HX]; rfl⟩
   ·have HX:Hid (hexN s i 4=none):=hexN_none (hexN_bad (by rw[bt_out s (i+j) (by omega)]; rfl)) (show j+1≤4 by omega)
    have HN:=hide (next_out rb s (i+j) tb kt wr (uh HR) (by omega))
    go_wp2_with fail
    refine (uh HN).mono ?_
    rintro e w1 ⟨rfl,k1⟩
    clear HN
    exact⟨rfl,hk.trans k1,by rw[uh HX]; rfl⟩
  ·have e4:j=4:=by omega
   subst e4
   go_wp2
   go_ret
   exact⟨hk,by rw[uh HV]; exact⟨rfl,uh HR⟩⟩
def isWord (s:ByteArray) (i:Nat) (wd:ByteArray) : Prop:=∀ k,k < wd.size→bt s (i+k)=bt wd k
theorem word_yes (rb:Nat) (s:ByteArray) (i:Nat) (tb kt:Bool) (w:World) (h:Rdr rb s i tb kt w) (hs:s.size≤1048576) (wd:ByteArray) (hw:wd.size≤1000) (hi:i+wd.size≤s.size) (hit:isWord s i wd) :
  Calls Tryz.prog 166 #[.pointer (some ⟨rb,0,none⟩),.string wd] w fun e w'=>e = .returned (.tuple #[])∧Rdr rb s (i+wd.size) tb kt w'∧KB rb w w':=by
 have H:=hide h
 have HIT:=hide hit
 clear h hit
 go_enter Tryz.func166,Tryz.ntmps166
 go_wp2
 go_loopw [7] (fun k wr=>∃ j:Nat,j≤wd.size∧k = .int .i64 j∧Rdr rb s (i+j) tb kt wr∧KB rb w wr) (fun k _=>wd.size - (intOf k).toNat)
 case atStart=>exact⟨0,by omega,rfl,uh H,KB.refl _ _⟩
 case round=>
  obtain⟨j,hj,rfl,hr,hk⟩:=hrel
  have HR:=hide hr
  clear hr
  by_cases hlt:j < wd.size
  ·have e1:=(uh HIT) j hlt
   have HE:Hid (Calls Tryz.prog 194 #[.pointer (some ⟨rb,0,none⟩),.int .u8 (wd[j].toNat:Int)] wr fun e w'=>e = .returned (.tuple #[])∧Rdr rb s (i+j+1) tb kt w'∧KB rb wr w'):=
    expect_yes rb s (i+j) tb kt wr (uh HR) hs wd[j].toNat (by rw[e1,bt_at wd j hlt]) (by omega)
   clear e1
   go_wp2_with fail
   refine (uh HE).mono ?_
   rintro e w1 ⟨rfl,r1,k1⟩
   have R1:=hide r1
   clear r1 HE
   go_wp2
   go_roundw
   case rel=>exact⟨j+1,by omega,by go_num,uh R1,hk.trans k1⟩
   case measure=>simp[intOf]; omega
  ·have e4:j=wd.size:=by omega
   subst e4
   go_wp2
   go_end0
   exact⟨rfl,uh HR,hk⟩
theorem word_no (rb:Nat) (s:ByteArray) (i:Nat) (tb kt:Bool) (w:World) (h:Rdr rb s i tb kt w) (hs:s.size≤1048576) (wd:ByteArray) (hw:wd.size≤1000) (hz:∀ k,k < wd.size→bt wd k≠0) (hi:i≤s.size) (hit:¬ isWord s i wd) :
  Calls Tryz.prog 166 #[.pointer (some ⟨rb,0,none⟩),.string wd] w fun e w'=>e=mis∧KB rb w w':=by
 have H:=hide h
 have HIT:=hide hit
 have HZ:=hide hz
 clear h hit hz
 go_enter Tryz.func166,Tryz.ntmps166
 go_wp2
 go_loopw [7] (fun k wr=>∃ j:Nat,j≤wd.size∧i+j≤s.size∧k = .int .i64 j∧(∀ m,m < j→bt s (i+m)=bt wd m)∧Rdr rb s (i+j) tb kt wr∧KB rb w wr) (fun k _=>wd.size - (intOf k).toNat)
 case atStart=>exact⟨0,by omega,hi,rfl,by omega,uh H,KB.refl _ _⟩
 case round=>
  obtain⟨j,hj,hij,rfl,hm,hr,hk⟩:=hrel
  have HR:=hide hr
  have HM:=hide hm
  clear hr hm
  by_cases hlt:j < wd.size
  ·by_cases e1:bt s (i+j)=bt wd j
   ·have hin:i+j < s.size:=bt_in (by rw[e1]; exact (uh HZ) j hlt)
    have HE:Hid (Calls Tryz.prog 194 #[.pointer (some ⟨rb,0,none⟩),.int .u8 (wd[j].toNat:Int)] wr fun e w'=>e = .returned (.tuple #[])∧Rdr rb s (i+j+1) tb kt w'∧KB rb wr w'):=
     expect_yes rb s (i+j) tb kt wr (uh HR) hs wd[j].toNat (by rw[e1,bt_at wd j hlt]) hin
    have HM1:Hid (∀ m,m < j+1→bt s (i+m)=bt wd m):=fun m hm=>by
     rcases Nat.lt_or_ge m j with g | g
     ·exact (uh HM) m g
     ·have:m=j:=by omega
      subst this; exact e1
    clear e1
    go_wp2_with fail
    refine (uh HE).mono ?_
    rintro e w1 ⟨rfl,r1,k1⟩
    have R1:=hide r1
    clear r1 HE
    go_wp2
    go_roundw
    case rel=>exact⟨j+1,by omega,by omega,by go_num,uh HM1,uh R1,hk.trans k1⟩
    case measure=>simp[intOf]; omega
   ·have HE:Hid (Calls Tryz.prog 194 #[.pointer (some ⟨rb,0,none⟩),.int .u8 (wd[j].toNat:Int)] wr fun e w'=>e=mis∧KB rb wr w'):=
     expect_no rb s (i+j) tb kt wr (uh HR) hs hij wd[j].toNat (.inl (by rw[bt_at wd j hlt] at e1; exact e1))
    clear e1
    go_wp2_with fail
    refine (uh HE).mono ?_
    rintro e w1 ⟨rfl,k1⟩
    clear HE
    exact⟨rfl,rfl,hk.trans k1⟩
  ·exfalso
   refine (uh HIT) fun k hk'=>(uh HM) k (by omega)
theorem isWord_u (s:ByteArray) (i:Nat) : isWord s i ⟨#[92,117]⟩↔bt s i=92∧bt s (i+1)=117:=by
 constructor
 ·intro h
  exact⟨h 0 (by decide),h 1 (by decide)⟩
 ·rintro⟨h0,h1⟩ k hk
  have:k < 2:=hk
  match k,this with
  | 0,_=>exact h0
  | 1,_=>exact h1
theorem hexRune_walk (rb:Nat) (s:ByteArray) (i:Nat) (tb kt:Bool) (w:World) (h:Rdr rb s (i+2) tb kt w) (hs:s.size≤1048576) (hi:i+2≤s.size) :
  Calls Tryz.prog 247 #[.pointer (some ⟨rb,0,none⟩)] w (Post rb s tb kt w (((hexN s (i+2) 4).bind (escU s i)).map fun p=>(.int .i32 (p.1:Int),i+p.2))):=by
 have HX:=hide (hexNum_walk rb s (i+2) tb kt w h hs hi)
 clear h
 cases hx1:hexN s (i+2) 4 with
 | none=>
  rw[hx1] at HX
  clear hx1
  go_enter Tryz.func247,Tryz.ntmps247
  go_wp2_with fail
  refine (uh HX).mono ?_
  rintro e w1 ⟨k1,rfl⟩
  clear HX
  exact⟨rfl,k1,rfl⟩
 | some u=>
  have hu:u < 65536:=hexN_lt s (i+2) 4 u hx1
  have hin:=hexN_in hx1
  rw[hx1] at HX
  clear hx1
  simp only[Option.bind_some]
  by_cases h1:u < 55296∨57344≤u
  ·have HE:Hid (escU s i u=some (u,6)):=by show _=_; unfold escU; rw[if_pos h1]
   rcases h1 with h1 | h1
   ·have a1:(u:Int) < 55296:=by omega
    go_enter Tryz.func247,Tryz.ntmps247
    go_wp2_with fail
    refine (uh HX).mono ?_
    rintro e w1 ⟨k1,rfl,r1⟩
    have R1:=hide r1
    clear HX r1
    go_wp2
    go_ret
    exact⟨k1,by rw[uh HE]; exact⟨rfl,uh R1⟩⟩
   ·have a1:¬ (u:Int) < 55296:=by omega
    have a2:(57343:Int) < (u:Int):=by omega
    have d1:decide ((u:Int) < 55296)=false:=by simp; omega
    go_enter Tryz.func247,Tryz.ntmps247
    go_wp2_with fail
    refine (uh HX).mono ?_
    rintro e w1 ⟨k1,rfl,r1⟩
    have R1:=hide r1
    clear HX r1
    go_wp2
    go_ret
    exact⟨k1,by rw[uh HE]; exact⟨rfl,uh R1⟩⟩
  ·have a1:¬ (u:Int) < 55296:=by omega
   have a2:¬ (57343:Int) < (u:Int):=by omega
   by_cases h2:56320≤u
   ·have HE:Hid (escU s i u=none):=by show _=_; unfold escU; rw[if_neg h1,if_pos h2]
    have a3:(56319:Int) < (u:Int):=by omega
    clear h1
    go_enter Tryz.func247,Tryz.ntmps247
    go_wp2_with fail
    refine (uh HX).mono ?_
    rintro e w1 ⟨k1,rfl,r1⟩
    clear HX r1
    go_wp2
    exact⟨rfl,k1,by rw[uh HE]; rfl⟩
   ·have a3:¬ (56319:Int) < (u:Int):=by omega
    have U12:Hid ((55296:Int)≤(u:Int)∧(u:Int)≤56319):=by show _∧_; omega
    by_cases hw:bt s (i+6)=92∧bt s (i+6+1)=117
    ·have hw':=(isWord_u s (i+6)).2 hw
     have hin7:i+6+1 < s.size:=bt_in (by rw[hw.2]; decide)
     have HW:Hid (∀ w,Rdr rb s (i+6) tb kt w→Calls Tryz.prog 166 #[.pointer (some ⟨rb,0,none⟩),.string ⟨#[92,117]⟩] w fun e w'=>e = .returned (.tuple #[])∧Rdr rb s (i+6+2) tb kt w'∧KB rb w w'):=
      fun w h=>word_yes rb s (i+6) tb kt w h hs ⟨#[92,117]⟩ (by decide) (by show i+6+2≤_; omega) hw'
     have HX2:Hid (∀ w,Rdr rb s (i+6+2) tb kt w→Calls Tryz.prog 277 #[.pointer (some ⟨rb,0,none⟩)] w (Post rb s tb kt w ((hexN s (i+6+2) 4).map fun v:Nat=>(.int .i32 (v:Int),i+6+2+4)))):=
      fun w h=>hexNum_walk rb s (i+6+2) tb kt w h hs (by omega)
     have eU:unit s (i+6)=hexN s (i+6+2) 4:=by unfold unit; rw[if_pos hw]
     clear hw hw'
     cases hx2:hexN s (i+6+2) 4 with
     | none=>
      have HE:Hid (escU s i u=none):=by show _=_; unfold escU; rw[if_neg h1,if_neg h2,eU,hx2]; rfl
      rw[hx2] at HX2
      clear hx2 eU h1 h2
      go_enter Tryz.func247,Tryz.ntmps247
      go_wp2_with fail
      refine (uh HX).mono ?_
      rintro e w1 ⟨k1,rfl,r1⟩
      have R1:=hide r1
      clear HX r1
      go_wp2_with fail
      refine (uh HW _ (uh R1)).mono ?_
      rintro e w2 ⟨rfl,r2,k2⟩
      have R2:=hide r2
      clear HW r2
      go_wp2_with fail
      refine (uh HX2 _ (uh R2)).mono ?_
      rintro e w3 ⟨k3,rfl⟩
      clear HX2
      exact⟨rfl,(k1.trans k2).trans k3,by rw[uh HE]; rfl⟩
     | some v=>
      have hv:v < 65536:=hexN_lt s (i+6+2) 4 v hx2
      rw[hx2] at HX2
      by_cases h3:56320≤v∧v < 57344
      ·have HE:Hid (escU s i u=some (65536+(u - 55296)*1024+(v - 56320),12)):=by
        show _=_; unfold escU; rw[if_neg h1,if_neg h2,eU,hx2]; simp only[Option.bind_some]; rw[if_pos h3]
       have v1:(56320:Int)≤(v:Int):=by omega
       have v2:(v:Int)≤57343:=by omega
       have v3:¬ (v:Int) < 56320:=by omega
       have v4:¬ (57343:Int) < (v:Int):=by omega
       clear hx2 eU h1 h2 h3
       go_enter Tryz.func247,Tryz.ntmps247
       go_wp2_with fail
       refine (uh HX).mono ?_
       rintro e w1 ⟨k1,rfl,r1⟩
       have R1:=hide r1
       clear HX r1
       go_wp2_with fail
       refine (uh HW _ (uh R1)).mono ?_
       rintro e w2 ⟨rfl,r2,k2⟩
       have R2:=hide r2
       clear HW r2
       go_wp2_with fail
       refine (uh HX2 _ (uh R2)).mono ?_
       rintro e w3 ⟨k3,rfl,r3⟩
       have R3:=hide r3
       clear HX2 r3
       obtain⟨u1,u2⟩:=uh U12
       go_wp2
       go_ret
       refine⟨(k1.trans k2).trans k3,?_⟩
       rw[uh HE]
       exact⟨ret_int (by omega),uh R3⟩
      ·have HE:Hid (escU s i u=none):=by
        show _=_; unfold escU; rw[if_neg h1,if_neg h2,eU,hx2]; simp only[Option.bind_some]; rw[if_neg h3]
       rcases (show v < 56320∨57344≤v from by omega) with h4 | h4
       ·have v1:(v:Int)≤56319:=by omega
        clear hx2 eU h1 h2 h3 h4
        go_enter Tryz.func247,Tryz.ntmps247
        go_wp2_with fail
        refine (uh HX).mono ?_
        rintro e w1 ⟨k1,rfl,r1⟩
        have R1:=hide r1
        clear HX r1
        go_wp2_with fail
        refine (uh HW _ (uh R1)).mono ?_
        rintro e w2 ⟨rfl,r2,k2⟩
        have R2:=hide r2
        clear HW r2
        go_wp2_with fail
        refine (uh HX2 _ (uh R2)).mono ?_
        rintro e w3 ⟨k3,rfl,r3⟩
        clear HX2 r3
        go_wp2
        exact⟨rfl,(k1.trans k2).trans k3,by rw[uh HE]; rfl⟩
       ·have v1:¬ (v:Int) < 56320:=by omega
        have v2:(57343:Int) < (v:Int):=by omega
        clear hx2 eU h1 h2 h3
        go_enter Tryz.func247,Tryz.ntmps247
        go_wp2_with fail
        refine (uh HX).mono ?_
        rintro e w1 ⟨k1,rfl,r1⟩
        have R1:=hide r1
        clear HX r1
        go_wp2_with fail
        refine (uh HW _ (uh R1)).mono ?_
        rintro e w2 ⟨rfl,r2,k2⟩
        have R2:=hide r2
        clear HW r2
        go_wp2_with fail
        refine (uh HX2 _ (uh R2)).mono ?_
        rintro e w3 ⟨k3,rfl,r3⟩
        clear HX2 r3
        go_wp2
        exact⟨rfl,(k1.trans k2).trans k3,by rw[uh HE]; rfl⟩
    ·have HE:Hid (escU s i u=none):=by
      show _=_; unfold escU; rw[if_neg h1,if_neg h2]; unfold unit; rw[if_neg hw]; rfl
     have HW:Hid (∀ w,Rdr rb s (i+6) tb kt w→Calls Tryz.prog 166 #[.pointer (some ⟨rb,0,none⟩),.string ⟨#[92,117]⟩] w fun e w'=>e=mis∧KB rb w w'):=
      fun w h=>word_no rb s (i+6) tb kt w h hs ⟨#[92,117]⟩ (by decide) (fun k hk=>by
       have:k < 2:=hk
       match k,this with
       | 0,_=>decide
       | 1,_=>decide) (by omega) (fun h=>hw ((isWord_u s (i+6)).1 h))
     clear h1 h2 hw
     go_enter Tryz.func247,Tryz.ntmps247
     go_wp2_with fail
     refine (uh HX).mono ?_
     rintro e w1 ⟨k1,rfl,r1⟩
     have R1:=hide r1
     clear HX r1
     go_wp2_with fail
     refine (uh HW _ (uh R1)).mono ?_
     rintro e w2 ⟨rfl,k2⟩
     clear HW
     exact⟨rfl,k1.trans k2,by rw[uh HE]; rfl⟩
theorem esc_34 (rb:Nat) (s:ByteArray) (i:Nat) (tb kt:Bool) (w:World) (h:Rdr rb s (i+1) tb kt w) (hs:s.size≤1048576) (hb:bt s (i+1)=34) :
  Calls Tryz.prog 222 #[.pointer (some ⟨rb,0,none⟩)] w fun e w'=>e = .returned (.int .i32 34)∧Rdr rb s (i+2) tb kt w'∧KB rb w w':=by
 have HN:=hide (next_in rb s (i+1) tb kt w h hs (bt_in (by rw[hb]; decide)))
 rw[hb] at HN
 clear h hb
 go_enter Tryz.func222,Tryz.ntmps222
 go_wp2_with fail
 refine (uh HN).mono ?_
 rintro e w1 ⟨rfl,r1,k1⟩
 have R1:=hide r1
 clear HN r1
 go_wp2
 go_ret
 exact⟨rfl,uh R1,k1⟩
theorem esc_92 (rb:Nat) (s:ByteArray) (i:Nat) (tb kt:Bool) (w:World) (h:Rdr rb s (i+1) tb kt w) (hs:s.size≤1048576) (hb:bt s (i+1)=92) :
  Calls Tryz.prog 222 #[.pointer (some ⟨rb,0,none⟩)] w fun e w'=>e = .returned (.int .i32 92)∧Rdr rb s (i+2) tb kt w'∧KB rb w w':=by
 have HN:=hide (next_in rb s (i+1) tb kt w h hs (bt_in (by rw[hb]; decide)))
 rw[hb] at HN
 clear h hb
 go_enter Tryz.func222,Tryz.ntmps222
 go_wp2_with fail
 refine (uh HN).mono ?_
 rintro e w1 ⟨rfl,r1,k1⟩
 have R1:=hide r1
 clear HN r1
 go_wp2
 go_ret
 exact⟨rfl,uh R1,k1⟩
theorem esc_47 (rb:Nat) (s:ByteArray) (i:Nat) (tb kt:Bool) (w:World) (h:Rdr rb s (i+1) tb kt w) (hs:s.size≤1048576) (hb:bt s (i+1)=47) :
  Calls Tryz.prog 222 #[.pointer (some ⟨rb,0,none⟩)] w fun e w'=>e = .returned (.int .i32 47)∧Rdr rb s (i+2) tb kt w'∧KB rb w w':=by
 have HN:=hide (next_in rb s (i+1) tb kt w h hs (bt_in (by rw[hb]; decide)))
 rw[hb] at HN
 clear h hb
 go_enter Tryz.func222,Tryz.ntmps222
 go_wp2_with fail
 refine (uh HN).mono ?_
 rintro e w1 ⟨rfl,r1,k1⟩
 have R1:=hide r1
 clear HN r1
 go_wp2
 go_ret
 exact⟨rfl,uh R1,k1⟩
theorem esc_98 (rb:Nat) (s:ByteArray) (i:Nat) (tb kt:Bool) (w:World) (h:Rdr rb s (i+1) tb kt w) (hs:s.size≤1048576) (hb:bt s (i+1)=98) :
  Calls Tryz.prog 222 #[.pointer (some ⟨rb,0,none⟩)] w fun e w'=>e = .returned (.int .i32 8)∧Rdr rb s (i+2) tb kt w'∧KB rb w w':=by
 have HN:=hide (next_in rb s (i+1) tb kt w h hs (bt_in (by rw[hb]; decide)))
 rw[hb] at HN
 clear h hb
 go_enter Tryz.func222,Tryz.ntmps222
 go_wp2_with fail
 refine (uh HN).mono ?_
 rintro e w1 ⟨rfl,r1,k1⟩
 have R1:=hide r1
 clear HN r1
 go_wp2
 go_ret
 exact⟨rfl,uh R1,k1⟩
theorem esc_102 (rb:Nat) (s:ByteArray) (i:Nat) (tb kt:Bool) (w:World) (h:Rdr rb s (i+1) tb kt w) (hs:s.size≤1048576) (hb:bt s (i+1)=102) :
  Calls Tryz.prog 222 #[.pointer (some ⟨rb,0,none⟩)] w fun e w'=>e = .returned (.int .i32 12)∧Rdr rb s (i+2) tb kt w'∧KB rb w w':=by
 have HN:=hide (next_in rb s (i+1) tb kt w h hs (bt_in (by rw[hb]; decide)))
 rw[hb] at HN
 clear h hb
 go_enter Tryz.func222,Tryz.ntmps222
 go_wp2_with fail
 refine (uh HN).mono ?_
 rintro e w1 ⟨rfl,r1,k1⟩
 have R1:=hide r1
 clear HN r1
 go_wp2
 go_ret
 exact⟨rfl,uh R1,k1⟩
theorem esc_110 (rb:Nat) (s:ByteArray) (i:Nat) (tb kt:Bool) (w:World) (h:Rdr rb s (i+1) tb kt w) (hs:s.size≤1048576) (hb:bt s (i+1)=110) :
  Calls Tryz.prog 222 #[.pointer (some ⟨rb,0,none⟩)] w fun e w'=>e = .returned (.int .i32 10)∧Rdr rb s (i+2) tb kt w'∧KB rb w w':=by
 have HN:=hide (next_in rb s (i+1) tb kt w h hs (bt_in (by rw[hb]; decide)))
 rw[hb] at HN
 clear h hb
 go_enter Tryz.func222,Tryz.ntmps222
 go_wp2_with fail
 refine (uh HN).mono ?_
 rintro e w1 ⟨rfl,r1,k1⟩
 have R1:=hide r1
 clear HN r1
 go_wp2
 go_ret
 exact⟨rfl,uh R1,k1⟩
theorem esc_114 (rb:Nat) (s:ByteArray) (i:Nat) (tb kt:Bool) (w:World) (h:Rdr rb s (i+1) tb kt w) (hs:s.size≤1048576) (hb:bt s (i+1)=114) :
  Calls Tryz.prog 222 #[.pointer (some ⟨rb,0,none⟩)] w fun e w'=>e = .returned (.int .i32 13)∧Rdr rb s (i+2) tb kt w'∧KB rb w w':=by
 have HN:=hide (next_in rb s (i+1) tb kt w h hs (bt_in (by rw[hb]; decide)))
 rw[hb] at HN
 clear h hb
 go_enter Tryz.func222,Tryz.ntmps222
 go_wp2_with fail
 refine (uh HN).mono ?_
 rintro e w1 ⟨rfl,r1,k1⟩
 have R1:=hide r1
 clear HN r1
 go_wp2
 go_ret
 exact⟨rfl,uh R1,k1⟩
theorem esc_116 (rb:Nat) (s:ByteArray) (i:Nat) (tb kt:Bool) (w:World) (h:Rdr rb s (i+1) tb kt w) (hs:s.size≤1048576) (hb:bt s (i+1)=116) :
  Calls Tryz.prog 222 #[.pointer (some ⟨rb,0,none⟩)] w fun e w'=>e = .returned (.int .i32 9)∧Rdr rb s (i+2) tb kt w'∧KB rb w w':=by
 have HN:=hide (next_in rb s (i+1) tb kt w h hs (bt_in (by rw[hb]; decide)))
 rw[hb] at HN
 clear h hb
 go_enter Tryz.func222,Tryz.ntmps222
 go_wp2_with fail
 refine (uh HN).mono ?_
 rintro e w1 ⟨rfl,r1,k1⟩
 have R1:=hide r1
 clear HN r1
 go_wp2
 go_ret
 exact⟨rfl,uh R1,k1⟩
theorem esc_u (rb:Nat) (s:ByteArray) (i:Nat) (tb kt:Bool) (w:World) (h:Rdr rb s (i+1) tb kt w) (hs:s.size≤1048576) (hi:i+2≤s.size) (h0:bt s i=92) (hb:bt s (i+1)=117) :
  Calls Tryz.prog 222 #[.pointer (some ⟨rb,0,none⟩)] w (Post rb s tb kt w ((escP s i).map fun p=>(.int .i32 (p.1:Int),i+p.2))):=by
 have HN:=hide (next_in rb s (i+1) tb kt w h hs (bt_in (by rw[hb]; decide)))
 rw[escP_u h0 hb]
 rw[hb] at HN
 have HX:Hid (∀ w,Rdr rb s (i+2) tb kt w→Calls Tryz.prog 247 #[.pointer (some ⟨rb,0,none⟩)] w (Post rb s tb kt w (((hexN s (i+2) 4).bind (escU s i)).map fun p=>(.int .i32 (p.1:Int),i+p.2)))):=fun w h=>hexRune_walk rb s i tb kt w h hs hi
 clear h hb h0
 generalize (hexN s (i+2) 4).bind (escU s i)=o at *
 cases o with
 | none=>
  go_enter Tryz.func222,Tryz.ntmps222
  go_wp2_with fail
  refine (uh HN).mono ?_
  rintro e w1 ⟨rfl,r1,k1⟩
  have R1:=hide r1
  clear HN r1
  go_wp2_with fail
  refine (uh HX _ (uh R1)).mono ?_
  rintro e w2 ⟨k2,rfl⟩
  clear HX
  exact⟨rfl,k1.trans k2,rfl⟩
 | some p=>
  go_enter Tryz.func222,Tryz.ntmps222
  go_wp2_with fail
  refine (uh HN).mono ?_
  rintro e w1 ⟨rfl,r1,k1⟩
  have R1:=hide r1
  clear HN r1
  go_wp2_with fail
  refine (uh HX _ (uh R1)).mono ?_
  rintro e w2 ⟨k2,rfl,r2⟩
  have R2:=hide r2
  clear HX r2
  go_wp2
  go_ret
  exact⟨k1.trans k2,rfl,uh R2⟩
theorem esc_end (rb:Nat) (s:ByteArray) (i:Nat) (tb kt:Bool) (w:World) (h:Rdr rb s (i+1) tb kt w) (hi:i+1=s.size) :
  Calls Tryz.prog 222 #[.pointer (some ⟨rb,0,none⟩)] w fun e w'=>e=mis∧KB rb w w':=by
 have HN:=hide (next_out rb s (i+1) tb kt w h hi)
 clear h hi
 go_enter Tryz.func222,Tryz.ntmps222
 go_wp2_with fail
 refine (uh HN).mono ?_
 rintro e w1 ⟨rfl,k1⟩
 clear HN
 exact⟨rfl,rfl,k1⟩
theorem esc_no (rb:Nat) (s:ByteArray) (i:Nat) (tb kt:Bool) (w:World) (h:Rdr rb s (i+1) tb kt w) (hs:s.size≤1048576) (hi:i+1 < s.size) (b:Nat) (hb:bt s (i+1)=b) (n34:b≠34) (n92:b≠92) (n47:b≠47) (n98:b≠98) (n102:b≠102) (n110:b≠110) (n114:b≠114) (n116:b≠116) (n117:b≠117) :
  Calls Tryz.prog 222 #[.pointer (some ⟨rb,0,none⟩)] w fun e w'=>e=mis∧KB rb w w':=by
 have HN:=hide (next_in rb s (i+1) tb kt w h hs hi)
 rw[hb] at HN
 have t34:((b:Int) == 34)=false:=by rw[beq_eq_false_iff_ne]; omega
 have t92:((b:Int) == 92)=false:=by rw[beq_eq_false_iff_ne]; omega
 have t47:((b:Int) == 47)=false:=by rw[beq_eq_false_iff_ne]; omega
 have t98:((b:Int) == 98)=false:=by rw[beq_eq_false_iff_ne]; omega
 have t102:((b:Int) == 102)=false:=by rw[beq_eq_false_iff_ne]; omega
 have t110:((b:Int) == 110)=false:=by rw[beq_eq_false_iff_ne]; omega
 have t114:((b:Int) == 114)=false:=by rw[beq_eq_false_iff_ne]; omega
 have t116:((b:Int) == 116)=false:=by rw[beq_eq_false_iff_ne]; omega
 have t117:((b:Int) == 117)=false:=by rw[beq_eq_false_iff_ne]; omega
 clear h hb n34 n92 n47 n98 n102 n110 n114 n116 n117
 go_enter Tryz.func222,Tryz.ntmps222
 go_wp2_with fail
 refine (uh HN).mono ?_
 rintro e w1 ⟨rfl,r1,k1⟩
 clear HN r1
 go_wp2
 exact⟨rfl,rfl,k1⟩
theorem smp_none {b:Nat} (n34:b≠34) (n92:b≠92) (n47:b≠47) (n98:b≠98) (n102:b≠102) (n110:b≠110) (n114:b≠114) (n116:b≠116) : smp b=none:=by
 unfold smp; rw[if_neg n34,if_neg n92,if_neg n47,if_neg n98,if_neg n102,if_neg n110,if_neg n114,if_neg n116]
theorem post_some {rb:Nat} {s:ByteArray} {tb kt:Bool} {w:World} {o:Option (Value×Nat)} {v:Value} {j:Nat} {e:Ending} {w':World} (ho:o=some (v,j)) (h:e = .returned v∧Rdr rb s j tb kt w'∧KB rb w w') : Post rb s tb kt w o e w':=by
 subst ho; exact⟨h.2.2,h.1,h.2.1⟩
theorem post_none {rb:Nat} {s:ByteArray} {tb kt:Bool} {w:World} {o:Option (Value×Nat)} {e:Ending} {w':World} (ho:o=none) (h:e=mis∧KB rb w w') : Post rb s tb kt w o e w':=by
 subst ho; exact⟨h.2,h.1⟩
theorem escape_walk (rb:Nat) (s:ByteArray) (i:Nat) (tb kt:Bool) (w:World) (h:Rdr rb s (i+1) tb kt w) (hs:s.size≤1048576) (hi:i+1≤s.size) (h0:bt s i=92) :
  Calls Tryz.prog 222 #[.pointer (some ⟨rb,0,none⟩)] w (Post rb s tb kt w ((escP s i).map fun p=>(.int .i32 (p.1:Int),i+p.2))):=by
 by_cases hend:i+1=s.size
 ·have hz:bt s (i+1)=0:=bt_out s (i+1) (by omega)
  exact (esc_end rb s i tb kt w h hend).mono fun e w' hh=>post_none (by rw[escP_n hz (by rfl) (by decide)]; rfl) hh
 by_cases n34:bt s (i+1)=34
 ·exact (esc_34 rb s i tb kt w h hs n34).mono fun e w' hh=>post_some (by rw[escP_s n34 (by rfl)]; rfl) hh
 by_cases n92:bt s (i+1)=92
 ·exact (esc_92 rb s i tb kt w h hs n92).mono fun e w' hh=>post_some (by rw[escP_s n92 (by rfl)]; rfl) hh
 by_cases n47:bt s (i+1)=47
 ·exact (esc_47 rb s i tb kt w h hs n47).mono fun e w' hh=>post_some (by rw[escP_s n47 (by rfl)]; rfl) hh
 by_cases n98:bt s (i+1)=98
 ·exact (esc_98 rb s i tb kt w h hs n98).mono fun e w' hh=>post_some (by rw[escP_s n98 (by rfl)]; rfl) hh
 by_cases n102:bt s (i+1)=102
 ·exact (esc_102 rb s i tb kt w h hs n102).mono fun e w' hh=>post_some (by rw[escP_s n102 (by rfl)]; rfl) hh
 by_cases n110:bt s (i+1)=110
 ·exact (esc_110 rb s i tb kt w h hs n110).mono fun e w' hh=>post_some (by rw[escP_s n110 (by rfl)]; rfl) hh
 by_cases n114:bt s (i+1)=114
 ·exact (esc_114 rb s i tb kt w h hs n114).mono fun e w' hh=>post_some (by rw[escP_s n114 (by rfl)]; rfl) hh
 by_cases n116:bt s (i+1)=116
 ·exact (esc_116 rb s i tb kt w h hs n116).mono fun e w' hh=>post_some (by rw[escP_s n116 (by rfl)]; rfl) hh
 by_cases n117:bt s (i+1)=117
 ·exact esc_u rb s i tb kt w h hs (by omega) h0 n117
 exact (esc_no rb s i tb kt w h hs (by omega) _ rfl n34 n92 n47 n98 n102 n110 n114 n116 n117).mono fun e w' hh=>post_none (by rw[escP_n rfl (smp_none n34 n92 n47 n98 n102 n110 n114 n116) n117]; rfl) hh
end Go.Proofs.YtocnekbedcnmgaaGreatDoor
