import Derived.Test.YtekpghcckdjnhaaGreatDoorBa20
import Derived.Test.YtekpghcckdjnhaaGreatDoorBa31
namespace Go.Proofs.YtekpghcckdjnhaaGreatDoor
open Go.RowKit Go.ChangeMaps Go.Proofs.Tryz
theorem zfp {w:World} {S:Nat->Prop} {v:JV} {L:List JV} {x:Value} {xs:List Value} (h:Rep w S v x) (h':zbS w S (JL.ofL L) xs) : zbS w S (JL.ofL (v :: L)) (x :: xs):=by
 rw[JL.ofL,zbS]
 exact⟨x,xs,rfl,h,h'⟩
theorem zmE {w:World} {S:Nat->Prop} {v:JV} {L:List JV} {xs:List Value} (h:zbS w S (JL.ofL (v :: L)) xs) : ∃ x r,xs=x :: r/\Rep w S v x/\zbS w S (JL.ofL L) r:=by
 rw[JL.ofL,zbS] at h
 exact h
theorem zeA {w:World} {S:Nat->Prop} {xs:List Value} : zbS w S (JL.ofL []) xs↔xs=[]:=by rw[JL.ofL,zbS]
theorem zfq {w:World} {S:Nat->Prop} : ∀ (L:List JV) (xs:List Value) (i:Nat),zbS w S (JL.ofL L) xs->zbS w S (JL.ofL (L.take i)) (xs.take i)
 | [],xs,i,h=>by rw[zeA] at h; subst h; simp[zeA]
 | v :: L,xs,0,h=>by simp[zeA]
 | v :: L,xs,i+1,h=>by
  obtain⟨x,r,rfl,h1,h2⟩:=zmE h
  exact zfp h1 (zfq L r i h2)
theorem zfr {w:World} {S:Nat->Prop} : ∀ (L:List JV) (xs:List Value) (i:Nat),zbS w S (JL.ofL L) xs->zbS w S (JL.ofL (L.drop i)) (xs.drop i)
 | [],xs,i,h=>by rw[zeA] at h; subst h; simp[zeA]
 | v :: L,xs,0,h=>h
 | v :: L,xs,i+1,h=>by
  obtain⟨x,r,rfl,h1,h2⟩:=zmE h
  exact zfr L r i h2
theorem zgE {w:World} {S:Nat->Prop} : ∀ (L:List JV) (xs:List Value) (L':List JV) (xs':List Value),zbS w S (JL.ofL L) xs->zbS w S (JL.ofL L') xs'->zbS w S (JL.ofL (L++L')) (xs++xs')
 | [],xs,L',xs',h,h'=>by rw[zeA] at h; subst h; exact h'
 | v :: L,xs,L',xs',h,h'=>by
  obtain⟨x,r,rfl,h1,h2⟩:=zmE h
  exact zfp h1 (zgE L r L' xs' h2 h')
theorem JM.ofL_toL:∀ l:JM,JM.ofL l.toL=l
 | .nil=>rfl
 | .cons k v r=>by rw[JM.toL,JM.ofL,JM.ofL_toL r]
theorem zs7 {w:World} {S:Nat->Prop} {L:List JV} {xs:List Value} (h:zbS w S (JL.ofL L) xs) : xs.length=L.length:=by
 have:=(zbJ _ _ h).1
 rwa [JL.toL_ofL] at this
theorem zs8 {w:World} {S:Nat->Prop} {L:List JV} {xs:List Value} {u:JV} {x:Value} (i:Nat) (h:zbS w S (JL.ofL L) xs) (hu:Rep w S u x) : zbS w S (JL.ofL (L.take i++u :: L.drop i)) (xs.take i++x :: xs.drop i):=
 zgE _ _ _ _ (zfq L xs i h) (zfp hu (zfr L xs i h))
theorem zoZ {w:World} {S:Nat->Prop} {L:List JV} {xs:List Value} (i:Nat) (h:zbS w S (JL.ofL L) xs) : zbS w S (JL.ofL (L.eraseIdx i)) (xs.take i++xs.drop (i+1)):=by
 rw[List.eraseIdx_eq_take_drop_succ]
 exact zgE _ _ _ _ (zfq L xs i h) (zfr L xs (i+1) h)
theorem zs9 {w:World} {S:Nat->Prop} {L:List JV} {xs:List Value} {u:JV} {x:Value} {i:Nat} (hi:i < L.length) (h:zbS w S (JL.ofL L) xs) (hu:Rep w S u x) : zbS w S (JL.ofL (L.set i u)) (xs.set i x):=by
 have hx:=zs7 h
 rw[List.set_eq_take_append_cons_drop,List.set_eq_take_append_cons_drop,yg hi,yg (by omega)]
 exact zgE _ _ _ _ (zfq L xs i h) (zfp hu (zfr L xs (i+1) h))
theorem zhA {w:World} {S:Nat->Prop} {k:List UInt8} {v:JV} {L:List (List UInt8×JV)} {x:Value} {xs:List (List UInt8×Value)} (h:Rep w S v x) (h':zcm w S (JM.ofL L) xs) : zcm w S (JM.ofL ((k,v) :: L)) ((k,x) :: xs):=by
 rw[JM.ofL,zcm]
 exact⟨x,xs,rfl,h,h'⟩
theorem zqT {w:World} {S:Nat->Prop} {k:List UInt8} {v:JV} {L:List (List UInt8×JV)} {xs:List (List UInt8×Value)} (h:zcm w S (JM.ofL ((k,v) :: L)) xs) : ∃ x r,xs=(k,x) :: r/\Rep w S v x/\zcm w S (JM.ofL L) r:=by
 rw[JM.ofL,zcm] at h
 exact h
theorem zgF {w:World} {S:Nat->Prop} {xs:List (List UInt8×Value)} : zcm w S (JM.ofL []) xs↔xs=[]:=by rw[JM.ofL,zcm]
theorem zjI {w:World} {S:Nat->Prop} (t:List UInt8) {u:JV} {y:Value} (hu:Rep w S u y) : ∀ (L:List (List UInt8×JV)) (xs:List (List UInt8×Value)),zcm w S (JM.ofL L) xs->zcm w S (JM.ofL (L.map fun q=>if q.1=t then (q.1,u) else q)) (xs.map fun q=>if q.1=t then (q.1,y) else q)
 | [],xs,h=>by rw[zgF] at h; subst h; exact zgF.2 rfl
 | (k,v) :: L,xs,h=>by
  obtain⟨x,r,rfl,h1,h2⟩:=zqT h
  rw[yi,yi]
  by_cases hk:k=t
  ·rw[yg hk,yg hk]; exact zhA hu (zjI t hu L r h2)
  ·rw[yf hk,yf hk]; exact zhA h1 (zjI t hu L r h2)
theorem zhB {w:World} {S:Nat->Prop} (t:List UInt8) : ∀ (L:List (List UInt8×JV)) (xs:List (List UInt8×Value)),zcm w S (JM.ofL L) xs->zcm w S (JM.ofL (L.filter fun q=>!(q.1 == t))) (xs.filter fun q=>!(q.1 == t))
 | [],xs,h=>by rw[zgF] at h; subst h; exact zgF.2 rfl
 | (k,v) :: L,xs,h=>by
  obtain⟨x,r,rfl,h1,h2⟩:=zqT h
  rw[List.filter_cons,List.filter_cons]
  by_cases hk:k=t
  ·rw[yf (by simp[hk]),yf (by simp[hk])]; exact zhB t L r h2
  ·rw[yg (by simp[hk]),yg (by simp[hk])]; exact zhA h1 (zhB t L r h2)
def znS (xs:List (List UInt8×Value)) : List (Lit×DataW Value):=xs.map fun p=>(.string p.1,.held p.2)
theorem zjJ (xs:List (List UInt8×Value)) : StrKeys (znS xs):=fun p hp=>by
 obtain⟨q,_,rfl⟩:=yO.1 hp
 exact⟨_,rfl⟩
theorem zgc {xs:List (List UInt8×Value)} (h:(xs.map (·.1)).Nodup) : (znS xs).Pairwise (fun p q=>p.1≠q.1):=by
 unfold znS
 rw[List.pairwise_map]
 unfold List.Nodup at h
 rw[List.pairwise_map] at h
 exact h.imp fun hne e=>hne (by injection e)
theorem zjK (t:List UInt8) (xs:List (List UInt8×Value)) : (znS xs).filter (notKey (.string t))=znS (xs.filter fun q=>!(q.1 == t)):=by
 unfold znS
 rw[List.filter_map]
 rfl
theorem zfs {t:List UInt8} {xs:List (List UInt8×Value)} (h:t ∉ xs.map (·.1)) : (xs.filter fun q=>!(q.1 == t))=xs:=by
 rw[List.filter_eq_self]
 intro q hq
 have:q.1≠t:=fun e=>h (yO.2 ⟨q,hq,e⟩)
 simp[this]
theorem zdE:∀ xs:List (List UInt8×Value),(xs.map (·.1)).Nodup->zao xs = .map ((znS xs).foldr DataW.insert []):=by
 refine zdw (fun _=>rfl) ?_
 rintro l ⟨k,v⟩ ih h
 rw[yw,List.nodup_append] at h
 have hno:k ∉ l.map (·.1):=fun hk=>h.2.2 k hk k (by simp) rfl
 rw[zbh,ih h.1]
 have hs:=(sorted_put (k:=.string k) (d:=.held v) (E:=znS l) (E':=znS (l++[(k,v)])) ⟨_,rfl⟩ (zjJ l) (zgc h.1) (by
  rw[zjK,zfs hno]
  unfold znS
  rw[yw]
  exact List.perm_append_comm)).1
 rw[hs]
 rfl
theorem znT {t:List UInt8} {v:Value} : ∀ {xs:List (List UInt8×Value)},(xs.map (·.1)).Nodup->t∈xs.map (·.1)->(xs.map fun q=>if q.1=t then (q.1,v) else q).Perm ((t,v) :: xs.filter fun q=>!(q.1 == t))
 | [],_,h=>by simp at h
 | (k,x) :: r,hd,h=>by
  rw[yi,List.nodup_cons] at hd
  rw[yi,List.filter_cons]
  by_cases hk:k=t
  ·subst hk
   have e:(r.map fun q=>if q.1=k then (q.1,v) else q)=r:=by
    conv=>rhs; rw[← List.map_id r]
    refine List.map_congr_left fun q hq=>?_
    have:q.1≠k:=fun e=>hd.1 (yO.2 ⟨q,hq,e⟩)
    rw[yf this]; rfl
   rw[yg rfl,yf (by simp),e,zfs hd.1]
  ·rw[yi,List.mem_cons] at h
   have h':=h.resolve_left (fun e=>hk e.symm)
   rw[yf hk,yg (by simp[hk])]
   exact ((znT hd.2 h').cons _).trans (List.Perm.swap _ _ _)
theorem zta (t:List UInt8) (v:Value) (xs:List (List UInt8×Value)) : (xs.map fun q=>if q.1=t then (q.1,v) else q).map (·.1)=xs.map (·.1):=by
 rw[List.map_map]
 refine List.map_congr_left fun q _=>?_
 show (if q.1=t then (q.1,v) else q).1=q.1
 split <;> rfl
theorem zo0 {t:List UInt8} {v:Value} {xs:List (List UInt8×Value)} (hd:(xs.map (·.1)).Nodup) (h:t∈xs.map (·.1)) : zao (xs++[(t,v)])=zao (xs.map fun q=>if q.1=t then (q.1,v) else q):=by
 rw[zbh,zdE xs hd,zdE _ (by rw[zta]; exact hd)]
 have hs:=(sorted_put (k:=.string t) (d:=.held v) (E:=znS xs) (E':=znS (xs.map fun q=>if q.1=t then (q.1,v) else q)) ⟨_,rfl⟩ (zjJ xs) (zgc hd) (by
  rw[zjK]
  exact (znT hd h).map _)).1
 rw[hs]
 rfl
theorem zo1 {t:List UInt8} {xs:List (List UInt8×Value)} (hd:(xs.map (·.1)).Nodup) : (zao xs).del (.string t)=zao (xs.filter fun q=>!(q.1 == t)):=by
 rw[zdE xs hd,zdE _ ((List.filter_sublist.map _).nodup hd)]
 have hs:=(sorted_del (k:=.string t) (E:=znS xs) (E':=znS (xs.filter fun q=>!(q.1 == t))) (zjJ xs) (zgc hd) (by rw[zjK])).1
 rw[hs]
 rfl
theorem zmF:∀ xs:List (List UInt8×Value),Maps.Tidy (zao xs)/\Maps.size (zao xs)<=xs.length:=by
 refine zdw ⟨Maps.tidy_empty,ye _⟩ ?_
 rintro l ⟨k,v⟩ ⟨h1,h2⟩
 rw[zbh]
 refine⟨h1.put (show WideAt.IsKeyLit (.string k) from trivial) _,?_⟩
 rw[Maps.size_put h1,yh,List.length_singleton]
 split <;> omega
theorem zdF {w:World} {b n:Nat} {xs:List (List UInt8×Value)} (h:w.ownsMap prog 9 RH b n (zao xs)) : w.ownsMap prog 9 RH b xs.length (zao xs):=by
 have hz:=(zmF xs).2
 obtain⟨es,clock,h1,h2,h3,h4⟩:=h
 refine⟨es,clock,h1,h2,?_,h4⟩
 rw[h4] at hz
 simpa [Maps.size,length_sorted] using hz
end Go.Proofs.YtekpghcckdjnhaaGreatDoor
