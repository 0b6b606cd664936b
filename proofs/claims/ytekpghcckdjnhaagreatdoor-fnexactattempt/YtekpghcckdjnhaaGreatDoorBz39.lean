import Derived.Test.YtekpghcckdjnhaaGreatDoorBz15
import Derived.Test.YtekpghcckdjnhaaGreatDoorBz25
namespace Go.Proofs.YtekpghcckdjnhaaGreatDoor
open Go.RowKit Go.ChangeMaps Go.Proofs.Tryz
theorem Fo{w:Wo}{S:Nat->Prop}{v:JV}{L:List JV}{x:Value}{xs:List Value}(h:zi w S v x)(h':Zl w S (JL.ofL L) xs):Zl w S (JL.ofL (v :: L)) (x :: xs):=by
 rw[JL.ofL,Zl];exact⟨x,xs,rfl,h,h'⟩
theorem PH{w:Wo}{S:Nat->Prop}{v:JV}{L:List JV}{xs:List Value}(h:Zl w S (JL.ofL (v :: L)) xs):∃ x r,xs=x :: r/\zi w S v x/\Zl w S (JL.ofL L) r:=by
 rw[JL.ofL,Zl]at h;exact h
theorem UA{w:Wo}{S:Nat->Prop}{xs:List Value}:Zl w S (JL.ofL []) xs↔xs=[]:=by rw[JL.ofL,Zl]
theorem Fp{w:Wo}{S:Nat->Prop}:∀ (L:List JV) (xs:List Value) (i:Nat),Zl w S (JL.ofL L) xs->Zl w S (JL.ofL (L.take i)) (xs.take i)
 | [],xs,i,h=>by rw[UA]at h;subst h;simp[UA]
 | v :: L,xs,0,h=>by simp[UA]
 | v :: L,xs,i+1,h=>by
  obtain⟨x,r,rfl,h1,h2⟩:=PH h;exact Fo h1 (Fp L r i h2)
theorem Fq{w:Wo}{S:Nat->Prop}:∀ (L:List JV) (xs:List Value) (i:Nat),Zl w S (JL.ofL L) xs->Zl w S (JL.ofL (L.drop i)) (xs.drop i)
 | [],xs,i,h=>by rw[UA]at h;subst h;simp[UA]
 | v :: L,xs,0,h=>h
 | v :: L,xs,i+1,h=>by
  obtain⟨x,r,rfl,h1,h2⟩:=PH h;exact Fq L r i h2
theorem Fs{w:Wo}{S:Nat->Prop}:∀ (L:List JV) (xs:List Value) (L':List JV) (xs':List Value),Zl w S (JL.ofL L) xs->Zl w S (JL.ofL L') xs'->Zl w S (JL.ofL (L++L')) (xs++xs')
 | [],xs,L',xs',h,h'=>by rw[UA]at h;subst h;exact h'
 | v :: L,xs,L',xs',h,h'=>by
  obtain⟨x,r,rfl,h1,h2⟩:=PH h;exact Fo h1 (Fs L r L' xs' h2 h')
theorem JM.ofL_toL:∀ l:JM,JM.ofL l.toL=l
 | .nil=>rfl
 | .cons k v r=>by rw[JM.toL,JM.ofL,JM.ofL_toL r]
theorem zdm{w:Wo}{S:Nat->Prop}{L:List JV}{xs:List Value}(h:Zl w S (JL.ofL L) xs):xs.length=L.length:=by
 have:=(JW _ _ h).1
 rwa [JL.toL_ofL]at this
theorem zdn{w:Wo}{S:Nat->Prop}{L:List JV}{xs:List Value}{u:JV}{x:Value}(i:Nat)(h:Zl w S (JL.ofL L) xs)(hu:zi w S u x):Zl w S (JL.ofL (L.take i++u :: L.drop i)) (xs.take i++x :: xs.drop i):=
 Fs _ _ _ _ (Fp L xs i h) (Fo hu (Fq L xs i h))
theorem zdo{w:Wo}{S:Nat->Prop}{L:List JV}{xs:List Value}(i:Nat)(h:Zl w S (JL.ofL L) xs):Zl w S (JL.ofL (L.eraseIdx i)) (xs.take i++xs.drop (i+1)):=by
 rw[List.eraseIdx_eq_take_drop_succ];exact Fs _ _ _ _ (Fp L xs i h) (Fq L xs (i+1) h)
theorem zdp{w:Wo}{S:Nat->Prop}{L:List JV}{xs:List Value}{u:JV}{x:Value}{i:Nat}(hi:i<L.length)(h:Zl w S (JL.ofL L) xs)(hu:zi w S u x):Zl w S (JL.ofL (L.set i u)) (xs.set i x):=by
 have hx:=zdm h;rw[List.set_eq_take_append_cons_drop,List.set_eq_take_append_cons_drop,yg hi,yg (by omega)];exact Fs _ _ _ _ (Fp L xs i h) (Fo hu (Fq L xs (i+1) h))
theorem PI{w:Wo}{S:Nat->Prop}{k:List UInt8}{v:JV}{L:List (List UInt8×JV)}{x:Value}{xs:List (List UInt8×Value)}(h:zi w S v x)(h':Zu w S (JM.ofL L) xs):Zu w S (JM.ofL ((k,v) :: L)) ((k,x) :: xs):=by
 rw[JM.ofL,Zu];exact⟨x,xs,rfl,h,h'⟩
theorem Tj{w:Wo}{S:Nat->Prop}{k:List UInt8}{v:JV}{L:List (List UInt8×JV)}{xs:List (List UInt8×Value)}(h:Zu w S (JM.ofL ((k,v) :: L)) xs):∃ x r,xs=(k,x) :: r/\zi w S v x/\Zu w S (JM.ofL L) r:=by
 rw[JM.ofL,Zu]at h;exact h
theorem Fu{w:Wo}{S:Nat->Prop}{xs:List (List UInt8×Value)}:Zu w S (JM.ofL []) xs↔xs=[]:=by rw[JM.ofL,Zu]
theorem PJ{w:Wo}{S:Nat->Prop}(t:List UInt8){u:JV}{y:Value}(hu:zi w S u y):∀ (L:List (List UInt8×JV)) (xs:List (List UInt8×Value)),Zu w S (JM.ofL L) xs->Zu w S (JM.ofL (L.map fun q=>if q.1=t then (q.1,u)else q)) (xs.map fun q=>if q.1=t then (q.1,y)else q)
 | [],xs,h=>by rw[Fu]at h;subst h;exact Fu.2 rfl
 |(k,v) :: L,xs,h=>by
  obtain⟨x,r,rfl,h1,h2⟩:=Tj h;rw[yi,yi];by_cases a:k=t
  ·rw[yg a,yg a];exact PI hu (PJ t hu L r h2)
  ·rw[yf a,yf a];exact PI h1 (PJ t hu L r h2)
theorem PK{w:Wo}{S:Nat->Prop}(t:List UInt8):∀ (L:List (List UInt8×JV)) (xs:List (List UInt8×Value)),Zu w S (JM.ofL L) xs->Zu w S (JM.ofL (L.filter fun q=>!(q.1 ==t))) (xs.filter fun q=>!(q.1 ==t))
 | [],xs,h=>by rw[Fu]at h;subst h;exact Fu.2 rfl
 |(k,v) :: L,xs,h=>by
  obtain⟨x,r,rfl,h1,h2⟩:=Tj h;rw[List.filter_cons,List.filter_cons];by_cases a:k=t
  ·rw[yf (by simp[a]),yf (by simp[a])];exact PK t L r h2
  ·rw[yg (by simp[a]),yg (by simp[a])];exact PI h1 (PK t L r h2)
def J2(xs:List (List UInt8×Value)):List (Lit×DataW Value):=xs.map fun p=>(.string p.1,.held p.2)
theorem PL(xs:List (List UInt8×Value)):StrKeys (J2 xs):=fun p hp=>by
 obtain⟨q,_,rfl⟩:=yO.1 hp;exact⟨_,rfl⟩
theorem PN{xs:List (List UInt8×Value)}(h:(xs.map (·.1)).Nodup):(J2 xs).Pairwise (fun p q=>p.1≠q.1):=by
 unfold J2;rw[List.pairwise_map];unfold List.Nodup at h;rw[List.pairwise_map]at h;exact h.imp fun hne e=>hne (by injection e)
theorem PO(t:List UInt8)(xs:List (List UInt8×Value)):(J2 xs).filter (notKey (.string t))=J2 (xs.filter fun q=>!(q.1 ==t)):=by
 unfold J2;rw[List.filter_map];rfl
theorem Tk{t:List UInt8}{xs:List (List UInt8×Value)}(h:t ∉ xs.map (·.1)):(xs.filter fun q=>!(q.1 ==t))=xs:=by
 rw[List.filter_eq_self];intro q a;have:q.1≠t:=fun e=>h (yO.2 ⟨q,a,e⟩);simp[this]
theorem Fv:∀ xs:List (List UInt8×Value),(xs.map (·.1)).Nodup->Zb xs= .map ((J2 xs).foldr DataW.insert []):=by
 refine WK (fun _=>rfl) ?_;rintro l ⟨k,v⟩ f h;rw[yw,List.nodup_append]at h;have a:k ∉ l.map (·.1):=fun hk=>h.2.2 k hk k (by simp) rfl;rw[V2,f h.1];have b:=(sorted_put (k:=.string k) (d:=.held v) (E:=J2 l) (E':=J2 (l++[(k,v)])) ⟨_,rfl⟩ (PL l) (PN h.1) (by
  rw[PO,Tk a];unfold J2;rw[yw];exact List.perm_append_comm)).1
 rw[b];rfl
theorem Tl{t:List UInt8}{v:Value}:∀ {xs:List (List UInt8×Value)},(xs.map (·.1)).Nodup->t∈xs.map (·.1)->(xs.map fun q=>if q.1=t then (q.1,v)else q).Perm ((t,v) :: xs.filter fun q=>!(q.1 ==t))
 | [],_,h=>by simp at h
 |(k,x) :: r,hd,h=>by
  rw[yi,List.nodup_cons]at hd;rw[yi,List.filter_cons];by_cases hk:k=t
  ·subst hk;have e:(r.map fun q=>if q.1=k then (q.1,v)else q)=r:=by
    conv=>rhs;rw[← List.map_id r]
    refine List.map_congr_left fun q hq=>?_;have:q.1≠k:=fun e=>hd.1 (yO.2 ⟨q,hq,e⟩);rw[yf this];rfl
   rw[yg rfl,yf (by simp),e,Tk hd.1]
  ·rw[yi,List.mem_cons]at h;have a:=h.resolve_left (fun e=>hk e.symm);rw[yf hk,yg (by simp[hk])];exact ((Tl hd.2 a).cons _).trans (List.Perm.swap _ _ _)
theorem zdq(t:List UInt8)(v:Value)(xs:List (List UInt8×Value)):(xs.map fun q=>if q.1=t then (q.1,v)else q).map (·.1)=xs.map (·.1):=by
 rw[List.map_map];refine List.map_congr_left fun q _=>?_;show (if q.1=t then (q.1,v)else q).1=q.1
 split<;>rfl
theorem zdr{t:List UInt8}{v:Value}{xs:List (List UInt8×Value)}(hd:(xs.map (·.1)).Nodup)(h:t∈xs.map (·.1)):Zb (xs++[(t,v)])=Zb (xs.map fun q=>if q.1=t then (q.1,v)else q):=by
 rw[V2,Fv xs hd,Fv _ (by rw[zdq];exact hd)];have a:=(sorted_put (k:=.string t) (d:=.held v) (E:=J2 xs) (E':=J2 (xs.map fun q=>if q.1=t then (q.1,v)else q)) ⟨_,rfl⟩ (PL xs) (PN hd) (by
  rw[PO];exact (Tl hd h).map _)).1
 rw[a];rfl
theorem zds{t:List UInt8}{xs:List (List UInt8×Value)}(hd:(xs.map (·.1)).Nodup):(Zb xs).del (.string t)=Zb (xs.filter fun q=>!(q.1 ==t)):=by
 rw[Fv xs hd,Fv _ ((List.filter_sublist.map _).nodup hd)];have a:=(sorted_del (k:=.string t) (E:=J2 xs) (E':=J2 (xs.filter fun q=>!(q.1 ==t))) (PL xs) (PN hd) (by rw[PO])).1;rw[a];rfl
theorem zdt:∀ xs:List (List UInt8×Value),Maps.Tidy (Zb xs)/\Maps.size (Zb xs)<=xs.length:=by
 refine WK ⟨Maps.tidy_empty,ye _⟩ ?_;rintro l ⟨k,v⟩ ⟨a,b⟩;rw[V2];refine⟨a.put (show WideAt.IsKeyLit (.string k)from trivial) _,?_⟩;rw[Maps.size_put a,yh,yR];split<;>omega
theorem PS{w:Wo}{b n:Nat}{xs:List (List UInt8×Value)}(h:w.ownsMap prog 9 RH b n (Zb xs)):w.ownsMap prog 9 RH b xs.length (Zb xs):=by
 have f:=(zdt xs).2;obtain⟨g,a,i,j,k,d⟩:=h;refine⟨g,a,i,j,?_,d⟩;rw[d]at f;simpa [Maps.size,length_sorted]using f
end Go.Proofs.YtekpghcckdjnhaaGreatDoor
