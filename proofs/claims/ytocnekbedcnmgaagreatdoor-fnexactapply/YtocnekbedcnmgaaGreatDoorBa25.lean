import Derived.ChangeMaps
import Derived.Maps.OwnSet
import Derived.Test.YtocnekbedcnmgaaGreatDoorBa18
import Derived.Test.YtocnekbedcnmgaaGreatDoorBa20
import Derived.Test.YtocnekbedcnmgaaGreatDoorBa24
namespace Go.Proofs.YtocnekbedcnmgaaGreatDoor
open Go.RowKit Go.ChangeMaps
theorem repL_cons {w:World} {S:Nat→Prop} {v:JV} {L:List JV} {x:Value} {xs:List Value} (h:Rep w S v x) (h':RepL w S (JL.ofL L) xs) : RepL w S (JL.ofL (v :: L)) (x :: xs):=by
 rw[JL.ofL,RepL]
 exact⟨x,xs,rfl,h,h'⟩
theorem repL_un {w:World} {S:Nat→Prop} {v:JV} {L:List JV} {xs:List Value} (h:RepL w S (JL.ofL (v :: L)) xs) : ∃ x r,xs=x :: r∧Rep w S v x∧RepL w S (JL.ofL L) r:=by
 rw[JL.ofL,RepL] at h
 exact h
theorem repL_nil {w:World} {S:Nat→Prop} {xs:List Value} : RepL w S (JL.ofL []) xs↔xs=[]:=by rw[JL.ofL,RepL]
theorem repL_take {w:World} {S:Nat→Prop} : ∀ (L:List JV) (xs:List Value) (i:Nat),RepL w S (JL.ofL L) xs→RepL w S (JL.ofL (L.take i)) (xs.take i)
 | [],xs,i,h=>by rw[repL_nil] at h; subst h; simp[repL_nil]
 | v :: L,xs,0,h=>by simp[repL_nil]
 | v :: L,xs,i+1,h=>by
  obtain⟨x,r,rfl,h1,h2⟩:=repL_un h
  exact repL_cons h1 (repL_take L r i h2)
theorem repL_drop {w:World} {S:Nat→Prop} : ∀ (L:List JV) (xs:List Value) (i:Nat),RepL w S (JL.ofL L) xs→RepL w S (JL.ofL (L.drop i)) (xs.drop i)
 | [],xs,i,h=>by rw[repL_nil] at h; subst h; simp[repL_nil]
 | v :: L,xs,0,h=>h
 | v :: L,xs,i+1,h=>by
  obtain⟨x,r,rfl,h1,h2⟩:=repL_un h
  exact repL_drop L r i h2
theorem repL_app {w:World} {S:Nat→Prop} : ∀ (L:List JV) (xs:List Value) (L':List JV) (xs':List Value),RepL w S (JL.ofL L) xs→RepL w S (JL.ofL L') xs'→RepL w S (JL.ofL (L++L')) (xs++xs')
 | [],xs,L',xs',h,h'=>by rw[repL_nil] at h; subst h; exact h'
 | v :: L,xs,L',xs',h,h'=>by
  obtain⟨x,r,rfl,h1,h2⟩:=repL_un h
  exact repL_cons h1 (repL_app L r L' xs' h2 h')
theorem JM.ofL_toL:∀ l:JM,JM.ofL l.toL=l
 | .nil=>rfl
 | .cons k v r=>by rw[JM.toL,JM.ofL,JM.ofL_toL r]
theorem repL_len {w:World} {S:Nat→Prop} {L:List JV} {xs:List Value} (h:RepL w S (JL.ofL L) xs) : xs.length=L.length:=by
 have:=(repL_at _ _ h).1
 rwa [JL.toL_ofL] at this
theorem repL_put {w:World} {S:Nat→Prop} {L:List JV} {xs:List Value} {u:JV} {x:Value} (i:Nat) (h:RepL w S (JL.ofL L) xs) (hu:Rep w S u x) : RepL w S (JL.ofL (L.take i++u :: L.drop i)) (xs.take i++x :: xs.drop i):=
 repL_app _ _ _ _ (repL_take L xs i h) (repL_cons hu (repL_drop L xs i h))
theorem repL_erase {w:World} {S:Nat→Prop} {L:List JV} {xs:List Value} (i:Nat) (h:RepL w S (JL.ofL L) xs) : RepL w S (JL.ofL (L.eraseIdx i)) (xs.take i++xs.drop (i+1)):=by
 rw[List.eraseIdx_eq_take_drop_succ]
 exact repL_app _ _ _ _ (repL_take L xs i h) (repL_drop L xs (i+1) h)
theorem repL_set {w:World} {S:Nat→Prop} {L:List JV} {xs:List Value} {u:JV} {x:Value} {i:Nat} (hi:i < L.length) (h:RepL w S (JL.ofL L) xs) (hu:Rep w S u x) : RepL w S (JL.ofL (L.set i u)) (xs.set i x):=by
 have hx:=repL_len h
 rw[List.set_eq_take_append_cons_drop,List.set_eq_take_append_cons_drop,if_pos hi,if_pos (by omega)]
 exact repL_app _ _ _ _ (repL_take L xs i h) (repL_cons hu (repL_drop L xs (i+1) h))
theorem repM_cons {w:World} {S:Nat→Prop} {k:List UInt8} {v:JV} {L:List (List UInt8×JV)} {x:Value} {xs:List (List UInt8×Value)} (h:Rep w S v x) (h':RepM w S (JM.ofL L) xs) : RepM w S (JM.ofL ((k,v) :: L)) ((k,x) :: xs):=by
 rw[JM.ofL,RepM]
 exact⟨x,xs,rfl,h,h'⟩
theorem repM_un {w:World} {S:Nat→Prop} {k:List UInt8} {v:JV} {L:List (List UInt8×JV)} {xs:List (List UInt8×Value)} (h:RepM w S (JM.ofL ((k,v) :: L)) xs) : ∃ x r,xs=(k,x) :: r∧Rep w S v x∧RepM w S (JM.ofL L) r:=by
 rw[JM.ofL,RepM] at h
 exact h
theorem repM_nil {w:World} {S:Nat→Prop} {xs:List (List UInt8×Value)} : RepM w S (JM.ofL []) xs↔xs=[]:=by rw[JM.ofL,RepM]
theorem repM_set {w:World} {S:Nat→Prop} (t:List UInt8) {u:JV} {y:Value} (hu:Rep w S u y) : ∀ (L:List (List UInt8×JV)) (xs:List (List UInt8×Value)),RepM w S (JM.ofL L) xs→RepM w S (JM.ofL (L.map fun q=>if q.1=t then (q.1,u) else q)) (xs.map fun q=>if q.1=t then (q.1,y) else q)
 | [],xs,h=>by rw[repM_nil] at h; subst h; exact repM_nil.2 rfl
 | (k,v) :: L,xs,h=>by
  obtain⟨x,r,rfl,h1,h2⟩:=repM_un h
  rw[List.map_cons,List.map_cons]
  by_cases hk:k=t
  ·rw[if_pos hk,if_pos hk]; exact repM_cons hu (repM_set t hu L r h2)
  ·rw[if_neg hk,if_neg hk]; exact repM_cons h1 (repM_set t hu L r h2)
theorem repM_drop {w:World} {S:Nat→Prop} (t:List UInt8) : ∀ (L:List (List UInt8×JV)) (xs:List (List UInt8×Value)),RepM w S (JM.ofL L) xs→RepM w S (JM.ofL (L.filter fun q=>!(q.1 == t))) (xs.filter fun q=>!(q.1 == t))
 | [],xs,h=>by rw[repM_nil] at h; subst h; exact repM_nil.2 rfl
 | (k,v) :: L,xs,h=>by
  obtain⟨x,r,rfl,h1,h2⟩:=repM_un h
  rw[List.filter_cons,List.filter_cons]
  by_cases hk:k=t
  ·rw[if_neg (by simp[hk]),if_neg (by simp[hk])]; exact repM_drop t L r h2
  ·rw[if_pos (by simp[hk]),if_pos (by simp[hk])]; exact repM_cons h1 (repM_drop t L r h2)
def ents (xs:List (List UInt8×Value)) : List (Lit×DataW Value):=xs.map fun p=>(.string p.1,.held p.2)
theorem ents_str (xs:List (List UInt8×Value)) : StrKeys (ents xs):=fun p hp=>by
 obtain⟨q,_,rfl⟩:=List.mem_map.1 hp
 exact⟨_,rfl⟩
theorem ents_apart {xs:List (List UInt8×Value)} (h:(xs.map (·.1)).Nodup) : (ents xs).Pairwise (fun p q=>p.1≠q.1):=by
 unfold ents
 rw[List.pairwise_map]
 unfold List.Nodup at h
 rw[List.pairwise_map] at h
 exact h.imp fun hne e=>hne (by injection e)
theorem ents_not (t:List UInt8) (xs:List (List UInt8×Value)) : (ents xs).filter (notKey (.string t))=ents (xs.filter fun q=>!(q.1 == t)):=by
 unfold ents
 rw[List.filter_map]
 rfl
theorem filter_absent {t:List UInt8} {xs:List (List UInt8×Value)} (h:t ∉ xs.map (·.1)) : (xs.filter fun q=>!(q.1 == t))=xs:=by
 rw[List.filter_eq_self]
 intro q hq
 have:q.1≠t:=fun e=>h (List.mem_map.2 ⟨q,hq,e⟩)
 simp[this]
theorem putAll_norm:∀ xs:List (List UInt8×Value),(xs.map (·.1)).Nodup→putAll xs = .map ((ents xs).foldr DataW.insert []):=by
 refine snoc_rec (fun _=>rfl) ?_
 rintro l ⟨k,v⟩ ih h
 rw[List.map_append,List.nodup_append] at h
 have hno:k ∉ l.map (·.1):=fun hk=>h.2.2 k hk k (by simp) rfl
 rw[putAll_snoc,ih h.1]
 have hs:=(sorted_put (k:=.string k) (d:=.held v) (E:=ents l) (E':=ents (l++[(k,v)])) ⟨_,rfl⟩ (ents_str l) (ents_apart h.1) (by
  rw[ents_not,filter_absent hno]
  unfold ents
  rw[List.map_append]
  exact List.perm_append_comm)).1
 rw[hs]
 rfl
theorem set_perm {t:List UInt8} {v:Value} : ∀ {xs:List (List UInt8×Value)},(xs.map (·.1)).Nodup→t∈xs.map (·.1)→(xs.map fun q=>if q.1=t then (q.1,v) else q).Perm ((t,v) :: xs.filter fun q=>!(q.1 == t))
 | [],_,h=>by simp at h
 | (k,x) :: r,hd,h=>by
  rw[List.map_cons,List.nodup_cons] at hd
  rw[List.map_cons,List.filter_cons]
  by_cases hk:k=t
  ·subst hk
   have e:(r.map fun q=>if q.1=k then (q.1,v) else q)=r:=by
    conv=>rhs; rw[← List.map_id r]
    refine List.map_congr_left fun q hq=>?_
    have:q.1≠k:=fun e=>hd.1 (List.mem_map.2 ⟨q,hq,e⟩)
    rw[if_neg this]; rfl
   rw[if_pos rfl,if_neg (by simp),e,filter_absent hd.1]
  ·rw[List.map_cons,List.mem_cons] at h
   have h':=h.resolve_left (fun e=>hk e.symm)
   rw[if_neg hk,if_pos (by simp[hk])]
   exact ((set_perm hd.2 h').cons _).trans (List.Perm.swap _ _ _)
theorem set_keys (t:List UInt8) (v:Value) (xs:List (List UInt8×Value)) : (xs.map fun q=>if q.1=t then (q.1,v) else q).map (·.1)=xs.map (·.1):=by
 rw[List.map_map]
 refine List.map_congr_left fun q _=>?_
 show (if q.1=t then (q.1,v) else q).1=q.1
 split <;> rfl
theorem putAll_set {t:List UInt8} {v:Value} {xs:List (List UInt8×Value)} (hd:(xs.map (·.1)).Nodup) (h:t∈xs.map (·.1)) : putAll (xs++[(t,v)])=putAll (xs.map fun q=>if q.1=t then (q.1,v) else q):=by
 rw[putAll_snoc,putAll_norm xs hd,putAll_norm _ (by rw[set_keys]; exact hd)]
 have hs:=(sorted_put (k:=.string t) (d:=.held v) (E:=ents xs) (E':=ents (xs.map fun q=>if q.1=t then (q.1,v) else q)) ⟨_,rfl⟩ (ents_str xs) (ents_apart hd) (by
  rw[ents_not]
  exact (set_perm hd h).map _)).1
 rw[hs]
 rfl
theorem putAll_del {t:List UInt8} {xs:List (List UInt8×Value)} (hd:(xs.map (·.1)).Nodup) : (putAll xs).del (.string t)=putAll (xs.filter fun q=>!(q.1 == t)):=by
 rw[putAll_norm xs hd,putAll_norm _ ((List.filter_sublist.map _).nodup hd)]
 have hs:=(sorted_del (k:=.string t) (E:=ents xs) (E':=ents (xs.filter fun q=>!(q.1 == t))) (ents_str xs) (ents_apart hd) (by rw[ents_not])).1
 rw[hs]
 rfl
theorem putAll_size:∀ xs:List (List UInt8×Value),Maps.Tidy (putAll xs)∧Maps.size (putAll xs)≤xs.length:=by
 refine snoc_rec ⟨Maps.tidy_empty,Nat.le_refl _⟩ ?_
 rintro l ⟨k,v⟩ ⟨h1,h2⟩
 rw[putAll_snoc]
 refine⟨h1.put (show WideAt.IsKeyLit (.string k) from trivial) _,?_⟩
 rw[Maps.size_put h1,List.length_append,List.length_singleton]
 split <;> omega
theorem ownsMap_tight {w:World} {b n:Nat} {xs:List (List UInt8×Value)} (h:w.ownsMap Tryz.prog 9 RH b n (putAll xs)) : w.ownsMap Tryz.prog 9 RH b xs.length (putAll xs):=by
 have hz:=(putAll_size xs).2
 obtain⟨es,clock,h1,h2,h3,h4⟩:=h
 refine⟨es,clock,h1,h2,?_,h4⟩
 rw[h4] at hz
 simpa [Maps.size,length_sorted] using hz
end Go.Proofs.YtocnekbedcnmgaaGreatDoor
