import Derived.Test.YtpaecnbdoljafaaGreatDoorBz13
import Derived.Test.YtpaecnbdoljafaaGreatDoorBz31
namespace Go.Proofs.YtpaecnbdoljafaaGreatDoor
open Go.RowKit Go.ChangeMaps Go.Proofs.Tryz
theorem Oe{w:Wo}{S:Nat->Prop}{v:JV}{L:List JV}{x:Value}{xs:List Value}(h:zk w S v x)(h':Zi w S (JL.ofL L) xs):Zi w S (JL.ofL (v :: L)) (x :: xs):=by
 rw[JL.ofL,Zi];exact⟨x,xs,rfl,h,h'⟩
theorem Sj{w:Wo}{S:Nat->Prop}{v:JV}{L:List JV}{xs:List Value}(h:Zi w S (JL.ofL (v :: L)) xs):∃ x r,xs=x :: r/\zk w S v x/\Zi w S (JL.ofL L) r:=by
 rw[JL.ofL,Zi]at h;exact h
theorem UX{w:Wo}{S:Nat->Prop}{xs:List Value}:Zi w S (JL.ofL []) xs↔xs=[]:=by rw[JL.ofL,Zi]
theorem Of{w:Wo}{S:Nat->Prop}:∀ (L:List JV) (xs:List Value) (i:Nat),Zi w S (JL.ofL L) xs->Zi w S (JL.ofL (L.take i)) (xs.take i)
 | [],xs,i,h=>by rw[UX]at h;subst h;simp[UX]
 | v :: L,xs,0,h=>by simp[UX]
 | v :: L,xs,i+1,h=>by
  obtain⟨x,r,rfl,h1,h2⟩:=Sj h;exact Oe h1 (Of L r i h2)
theorem Og{w:Wo}{S:Nat->Prop}:∀ (L:List JV) (xs:List Value) (i:Nat),Zi w S (JL.ofL L) xs->Zi w S (JL.ofL (L.drop i)) (xs.drop i)
 | [],xs,i,h=>by rw[UX]at h;subst h;simp[UX]
 | v :: L,xs,0,h=>h
 | v :: L,xs,i+1,h=>by
  obtain⟨x,r,rfl,h1,h2⟩:=Sj h;exact Og L r i h2
theorem Oh{w:Wo}{S:Nat->Prop}:∀ (L:List JV) (xs:List Value) (L':List JV) (xs':List Value),Zi w S (JL.ofL L) xs->Zi w S (JL.ofL L') xs'->Zi w S (JL.ofL (L++L')) (xs++xs')
 | [],xs,L',xs',h,h'=>by rw[UX]at h;subst h;exact h'
 | v :: L,xs,L',xs',h,h'=>by
  obtain⟨x,r,rfl,h1,h2⟩:=Sj h;exact Oe h1 (Oh L r L' xs' h2 h')
theorem JM.ofL_toL:∀ l:JM,JM.ofL l.toL=l
 | .nil=>rfl
 | .cons k v r=>by rw[JM.toL,JM.ofL,JM.ofL_toL r]
theorem zey{w:Wo}{S:Nat->Prop}{L:List JV}{xs:List Value}(h:Zi w S (JL.ofL L) xs):xs.length=L.length:=by
 have:=(QY _ _ h).1
 rwa [JL.toL_ofL]at this
theorem zez{w:Wo}{S:Nat->Prop}{L:List JV}{xs:List Value}{u:JV}{x:Value}(i:Nat)(h:Zi w S (JL.ofL L) xs)(hu:zk w S u x):Zi w S (JL.ofL (L.take i++u :: L.drop i)) (xs.take i++x :: xs.drop i):=
 Oh _ _ _ _ (Of L xs i h) (Oe hu (Og L xs i h))
theorem zeA{w:Wo}{S:Nat->Prop}{L:List JV}{xs:List Value}(i:Nat)(h:Zi w S (JL.ofL L) xs):Zi w S (JL.ofL (L.eraseIdx i)) (xs.take i++xs.drop (i+1)):=by
 rw[List.eraseIdx_eq_take_drop_succ];exact Oh _ _ _ _ (Of L xs i h) (Og L xs (i+1) h)
theorem zeB{w:Wo}{S:Nat->Prop}{L:List JV}{xs:List Value}{u:JV}{x:Value}{i:Nat}(hi:i<L.length)(h:Zi w S (JL.ofL L) xs)(hu:zk w S u x):Zi w S (JL.ofL (L.set i u)) (xs.set i x):=by
 have hx:=zey h;rw[List.set_eq_take_append_cons_drop,List.set_eq_take_append_cons_drop,yg hi,yg (by omega)];exact Oh _ _ _ _ (Of L xs i h) (Oe hu (Og L xs (i+1) h))
theorem Sk{w:Wo}{S:Nat->Prop}{k:List UInt8}{v:JV}{L:List (List UInt8×JV)}{x:Value}{xs:List (List UInt8×Value)}(h:zk w S v x)(h':Zt w S (JM.ofL L) xs):Zt w S (JM.ofL ((k,v) :: L)) ((k,x) :: xs):=by
 rw[JM.ofL,Zt];exact⟨x,xs,rfl,h,h'⟩
theorem CK{w:Wo}{S:Nat->Prop}{k:List UInt8}{v:JV}{L:List (List UInt8×JV)}{xs:List (List UInt8×Value)}(h:Zt w S (JM.ofL ((k,v) :: L)) xs):∃ x r,xs=(k,x) :: r/\zk w S v x/\Zt w S (JM.ofL L) r:=by
 rw[JM.ofL,Zt]at h;exact h
theorem Oi{w:Wo}{S:Nat->Prop}{xs:List (List UInt8×Value)}:Zt w S (JM.ofL []) xs↔xs=[]:=by rw[JM.ofL,Zt]
theorem Sm{w:Wo}{S:Nat->Prop}(t:List UInt8){u:JV}{y:Value}(hu:zk w S u y):∀ (L:List (List UInt8×JV)) (xs:List (List UInt8×Value)),Zt w S (JM.ofL L) xs->Zt w S (JM.ofL (L.map fun q=>if q.1=t then (q.1,u)else q)) (xs.map fun q=>if q.1=t then (q.1,y)else q)
 | [],xs,h=>by rw[Oi]at h;subst h;exact Oi.2 rfl
 |(k,v) :: L,xs,h=>by
  obtain⟨x,r,rfl,h1,h2⟩:=CK h;rw[yi,yi];by_cases a:k=t
  ·rw[yg a,yg a];exact Sk hu (Sm t hu L r h2)
  ·rw[yf a,yf a];exact Sk h1 (Sm t hu L r h2)
theorem Sn{w:Wo}{S:Nat->Prop}(t:List UInt8):∀ (L:List (List UInt8×JV)) (xs:List (List UInt8×Value)),Zt w S (JM.ofL L) xs->Zt w S (JM.ofL (L.filter fun q=>!(q.1 ==t))) (xs.filter fun q=>!(q.1 ==t))
 | [],xs,h=>by rw[Oi]at h;subst h;exact Oi.2 rfl
 |(k,v) :: L,xs,h=>by
  obtain⟨x,r,rfl,h1,h2⟩:=CK h;rw[List.filter_cons,List.filter_cons];by_cases a:k=t
  ·rw[yf (by simp[a]),yf (by simp[a])];exact Sn t L r h2
  ·rw[yg (by simp[a]),yg (by simp[a])];exact Sk h1 (Sn t L r h2)
def Yg(xs:List (List UInt8×Value)):List (Lit×DataW Value):=xs.map fun p=>(.string p.1,.held p.2)
theorem So(xs:List (List UInt8×Value)):StrKeys (Yg xs):=fun p hp=>by
 obtain⟨q,_,rfl⟩:=yP.1 hp;exact⟨_,rfl⟩
theorem Sp{xs:List (List UInt8×Value)}(h:(xs.map (·.1)).Nodup):(Yg xs).Pairwise (fun p q=>p.1≠q.1):=by
 unfold Yg;rw[List.pairwise_map];unfold List.Nodup at h;rw[List.pairwise_map]at h;exact h.imp fun hne e=>hne (by injection e)
theorem Sq(t:List UInt8)(xs:List (List UInt8×Value)):(Yg xs).filter (notKey (.string t))=Yg (xs.filter fun q=>!(q.1 ==t)):=by
 unfold Yg;rw[List.filter_map];rfl
theorem CM{t:List UInt8}{xs:List (List UInt8×Value)}(h:t ∉ xs.map (·.1)):(xs.filter fun q=>!(q.1 ==t))=xs:=by
 rw[List.filter_eq_self];intro q a;have:q.1≠t:=fun e=>h (yP.2 ⟨q,a,e⟩);simp[this]
theorem Oj:∀ xs:List (List UInt8×Value),(xs.map (·.1)).Nodup->zZ xs= .map ((Yg xs).foldr DataW.insert []):=by
 refine WI (fun _=>rfl) ?_;rintro l ⟨k,v⟩ f h;rw[yx,List.nodup_append]at h;have a:k ∉ l.map (·.1):=fun hk=>h.2.2 k hk k (by simp) rfl;rw[Ga,f h.1];have b:=(sorted_put (k:=.string k) (d:=.held v) (E:=Yg l) (E':=Yg (l++[(k,v)])) ⟨_,rfl⟩ (So l) (Sp h.1) (by
  rw[Sq,CM a];unfold Yg;rw[yx];exact List.perm_append_comm)).1
 rw[b];rfl
theorem CN{t:List UInt8}{v:Value}:∀ {xs:List (List UInt8×Value)},(xs.map (·.1)).Nodup->t∈xs.map (·.1)->(xs.map fun q=>if q.1=t then (q.1,v)else q).Perm ((t,v) :: xs.filter fun q=>!(q.1 ==t))
 | [],_,h=>by simp at h
 |(k,x) :: r,hd,h=>by
  rw[yi,List.nodup_cons]at hd;rw[yi,List.filter_cons];by_cases hk:k=t
  ·subst hk;have e:(r.map fun q=>if q.1=k then (q.1,v)else q)=r:=by
    conv=>rhs;rw[← List.map_id r]
    refine List.map_congr_left fun q hq=>?_;have:q.1≠k:=fun e=>hd.1 (yP.2 ⟨q,hq,e⟩);rw[yf this];rfl
   rw[yg rfl,yf (by simp),e,CM hd.1]
  ·rw[yi,List.mem_cons]at h;have a:=h.resolve_left (fun e=>hk e.symm);rw[yf hk,yg (by simp[hk])];exact ((CN hd.2 a).cons _).trans (List.Perm.swap _ _ _)
theorem zeC(t:List UInt8)(v:Value)(xs:List (List UInt8×Value)):(xs.map fun q=>if q.1=t then (q.1,v)else q).map (·.1)=xs.map (·.1):=by
 rw[List.map_map];refine List.map_congr_left fun q _=>?_;show (if q.1=t then (q.1,v)else q).1=q.1
 split<;>rfl
theorem zeD{t:List UInt8}{v:Value}{xs:List (List UInt8×Value)}(hd:(xs.map (·.1)).Nodup)(h:t∈xs.map (·.1)):zZ (xs++[(t,v)])=zZ (xs.map fun q=>if q.1=t then (q.1,v)else q):=by
 rw[Ga,Oj xs hd,Oj _ (by rw[zeC];exact hd)];have a:=(sorted_put (k:=.string t) (d:=.held v) (E:=Yg xs) (E':=Yg (xs.map fun q=>if q.1=t then (q.1,v)else q)) ⟨_,rfl⟩ (So xs) (Sp hd) (by
  rw[Sq];exact (CN hd h).map _)).1
 rw[a];rfl
theorem zeE{t:List UInt8}{xs:List (List UInt8×Value)}(hd:(xs.map (·.1)).Nodup):(zZ xs).del (.string t)=zZ (xs.filter fun q=>!(q.1 ==t)):=by
 rw[Oj xs hd,Oj _ ((List.filter_sublist.map _).nodup hd)];have a:=(sorted_del (k:=.string t) (E:=Yg xs) (E':=Yg (xs.filter fun q=>!(q.1 ==t))) (So xs) (Sp hd) (by rw[Sq])).1;rw[a];rfl
theorem zeF:∀ xs:List (List UInt8×Value),Maps.Tidy (zZ xs)/\Maps.size (zZ xs)<=xs.length:=by
 refine WI ⟨Maps.tidy_empty,ye _⟩ ?_;rintro l ⟨k,v⟩ ⟨a,b⟩;rw[Ga];refine⟨a.put (show WideAt.IsKeyLit (.string k)from trivial) _,?_⟩;rw[Maps.size_put a,yh,List.length_singleton];split<;>omega
theorem Sr{w:Wo}{b n:Nat}{xs:List (List UInt8×Value)}(h:w.ownsMap prog 9 RH b n (zZ xs)):w.ownsMap prog 9 RH b xs.length (zZ xs):=by
 have f:=(zeF xs).2;obtain⟨g,a,i,j,k,d⟩:=h;refine⟨g,a,i,j,?_,d⟩;rw[d]at f;simpa [Maps.size,length_sorted]using f
end Go.Proofs.YtpaecnbdoljafaaGreatDoor
