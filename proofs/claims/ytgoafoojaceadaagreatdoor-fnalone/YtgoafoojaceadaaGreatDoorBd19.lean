import Derived.Shelf.SlMaps.Clone
import Derived.Test.YtgoafoojaceadaaGreatDoorBd18
set_option maxRecDepth 100000
set_option maxHeartbeats 8000000
open Go renaming Calls->δ,Value->ω
open Go.Ending renaming returned->ε
open Go.IntKind renaming i64->κ
open Go.Obj renaming cells->χ
open Go.Value renaming bool->θ,iface->φ,int->ι,pointer->π,slice->Μ,slice->ς,string->σ,tuple->τ
open _root_.Bool renaming false->ζ,true->ξ
open _root_.List renaming contains_eq_mem->Α,dropLast_concat_getLast->Β,filter_cons->Ι,getD->Ν,getElem?_eq_some_iff->Η,getElem_map->Ε,length->Γ,mem_cons->Θ,mem_singleton->Ζ,set_eq_take_append_cons_drop->Δ
open _root_.Option renaming bind_eq_some_iff->Κ,none->ν,some->η
namespace Go.Proofs.YtgoafoojaceadaaGreatDoor
open Go.RowKit Go.ChangeMaps Go.Proofs.Tryz
variable{vt:TypeId}{w w' w1:Wo}{S:Nat->Prop}{xs:List ω}{v m u:JV}{o:qj}{n og pg pc fg fc g b off cap N:Nat}{pa fa a:Option Addr}{vp x y r:ω}{L:List JV}{t k:List UInt8}{l:JL}{ts:List (List UInt8)}{e:Ending}
theorem Nx(h:zi w S v x)(h':Zv w S (JL.ofL L) xs):Zv w S (JL.ofL (v :: L)) (x :: xs):=by
 rw[JL.ofL,Zv];exact⟨x,xs,rfl,h,h'⟩
theorem Dn(h:Zv w S (JL.ofL (v :: L)) xs):∃ x r,xs=x :: r/\zi w S v x/\Zv w S (JL.ofL L) r:=by
 rw[JL.ofL,Zv]at h;exact h
theorem Xj:Zv w S (JL.ofL []) xs↔xs=[]:=by rw[JL.ofL,Zv]
theorem Ny:∀ (L:List JV) (xs:List ω) (i:Nat),Zv w S (JL.ofL L) xs->Zv w S (JL.ofL (L.take i)) (xs.take i)
 | [],xs,i,h=>by rw[Xj]at h;subst h;simp[Xj]
 | v :: L,xs,0,h=>by simp[Xj]
 | v :: L,xs,i+1,h=>by
  obtain⟨x,r,rfl,h1,h2⟩:=Dn h;exact Nx h1 (Ny L r i h2)
theorem Nz:∀ (L:List JV) (xs:List ω) (i:Nat),Zv w S (JL.ofL L) xs->Zv w S (JL.ofL (L.drop i)) (xs.drop i)
 | [],xs,i,h=>by rw[Xj]at h;subst h;simp[Xj]
 | v :: L,xs,0,h=>h
 | v :: L,xs,i+1,h=>by
  obtain⟨x,r,rfl,h1,h2⟩:=Dn h;exact Nz L r i h2
theorem NA:∀ (L:List JV) (xs:List ω) (L':List JV) (xs':List ω),Zv w S (JL.ofL L) xs->Zv w S (JL.ofL L') xs'->Zv w S (JL.ofL (L++L')) (xs++xs')
 | [],xs,L',xs',h,h'=>by rw[Xj]at h;subst h;exact h'
 | v :: L,xs,L',xs',h,h'=>by
  obtain⟨x,r,rfl,h1,h2⟩:=Dn h;exact Nx h1 (NA L r L' xs' h2 h')
theorem JM.ofL_toL:∀ l:JM,JM.ofL l.toL=l
 | .nil=>rfl
 | .cons k v r=>by rw[JM.toL,JM.ofL,JM.ofL_toL r]
theorem zfQ(h:Zv w S (JL.ofL L) xs):xs.length=L.length:=by
 have:=(Yo _ _ h).1
 rwa [JL.toL_ofL]at this
theorem zfR(i:Nat)(h:Zv w S (JL.ofL L) xs)(hu:zi w S u x):Zv w S (JL.ofL (L.take i++u :: L.drop i)) (xs.take i++x :: xs.drop i):=
 NA _ _ _ _ (Ny L xs i h) (Nx hu (Nz L xs i h))
theorem zfS(i:Nat)(h:Zv w S (JL.ofL L) xs):Zv w S (JL.ofL (L.eraseIdx i)) (xs.take i++xs.drop (i+1)):=by
 rw[List.eraseIdx_eq_take_drop_succ];exact NA _ _ _ _ (Ny L xs i h) (Nz L xs (i+1) h)
theorem zfT{i:Nat}(hi:i<L.length)(h:Zv w S (JL.ofL L) xs)(hu:zi w S u x):Zv w S (JL.ofL (L.set i u)) (xs.set i x):=by
 have hx:=zfQ h;rw[Δ,Δ,yg hi,yg om];exact NA _ _ _ _ (Ny L xs i h) (Nx hu (Nz L xs (i+1) h))
theorem Do{L:List (List UInt8×JV)}{xs:List (List UInt8×ω)}(h:zi w S v x)(h':ZE w S (JM.ofL L) xs):ZE w S (JM.ofL ((k,v) :: L)) ((k,x) :: xs):=by
 rw[JM.ofL,ZE];exact⟨x,xs,rfl,h,h'⟩
theorem C5{L:List (List UInt8×JV)}{xs:List (List UInt8×ω)}(h:ZE w S (JM.ofL ((k,v) :: L)) xs):∃ x r,xs=(k,x) :: r/\zi w S v x/\ZE w S (JM.ofL L) r:=by
 rw[JM.ofL,ZE]at h;exact h
theorem NB{xs:List (List UInt8×ω)}:ZE w S (JM.ofL []) xs↔xs=[]:=by rw[JM.ofL,ZE]
theorem Dp(t:List UInt8)(hu:zi w S u y):∀ (L:List (List UInt8×JV)) (xs:List (List UInt8×ω)),ZE w S (JM.ofL L) xs->ZE w S (JM.ofL (L.map fun q=>if q.1=t then (q.1,u)else q)) (xs.map fun q=>if q.1=t then (q.1,y)else q)
 | [],xs,h=>by rw[NB]at h;subst h;exact NB.2 rfl
 |(k,v) :: L,xs,h=>by
  obtain⟨x,r,rfl,h1,h2⟩:=C5 h;rw[yi,yi];by_cases a:k=t
  .rw[yg a,yg a];exact Do hu (Dp t hu L r h2)
  .rw[yf a,yf a];exact Do h1 (Dp t hu L r h2)
theorem Dq(t:List UInt8):∀ (L:List (List UInt8×JV)) (xs:List (List UInt8×ω)),ZE w S (JM.ofL L) xs->ZE w S (JM.ofL (L.filter fun q=>!(q.1 ==t))) (xs.filter fun q=>!(q.1 ==t))
 | [],xs,h=>by rw[NB]at h;subst h;exact NB.2 rfl
 |(k,v) :: L,xs,h=>by
  obtain⟨x,r,rfl,h1,h2⟩:=C5 h;rw[Ι,Ι];by_cases a:k=t
  .rw[yf (by simp[a]),yf (by simp[a])];exact Dq t L r h2
  .rw[yg (by simp[a]),yg (by simp[a])];exact Do h1 (Dq t L r h2)
def YM(xs:List (List UInt8×ω)):List (Lit×DataW ω):=xs.map fun p=>(.string p.1,.held p.2)
theorem Dr(xs:List (List UInt8×ω)):StrKeys (YM xs):=fun p hp=>by
 obtain⟨q,_,rfl⟩:=yP.1 hp;exact⟨_,rfl⟩
theorem Ds{xs:List (List UInt8×ω)}(h:(xs.map (·.1)).Nodup):(YM xs).Pairwise (fun p q=>p.1≠q.1):=by
 unfold YM;rw[List.pairwise_map];unfold List.Nodup at h;rw[List.pairwise_map]at h;exact h.imp fun hne e=>hne (by injection e)
theorem Dt(t:List UInt8)(xs:List (List UInt8×ω)):(YM xs).filter (notKey (.string t))=YM (xs.filter fun q=>!(q.1 ==t)):=by
 unfold YM;rw[List.filter_map];rfl
theorem C6{xs:List (List UInt8×ω)}(h:t ∉ xs.map (·.1)):(xs.filter fun q=>!(q.1 ==t))=xs:=by
 rw[List.filter_eq_self];intro q a;have:q.1≠t:=fun e=>h (yP.2 ⟨q,a,e⟩);simp[this]
theorem NC:∀ xs:List (List UInt8×ω),(xs.map (·.1)).Nodup->Zl xs= .map ((YM xs).foldr DataW.insert []):=by
 refine UD (fun _=>rfl) ?_;rintro l ⟨k,v⟩ f h;rw[yx,List.nodup_append]at h;have a:k ∉ l.map (·.1):=fun hk=>h.2.2 k hk k sm rfl;rw[We,f h.1];have b:=(sorted_put (k:=.string k) (d:=.held v) (E:=YM l) (E':=YM (l++[(k,v)])) ⟨_,rfl⟩ (Dr l) (Ds h.1) (by
  rw[Dt,C6 a];unfold YM;rw[yx];exact List.perm_append_comm)).1
 rw[b];rfl
theorem C7{v:ω}:∀ {xs:List (List UInt8×ω)},(xs.map (·.1)).Nodup->t∈xs.map (·.1)->(xs.map fun q=>if q.1=t then (q.1,v)else q).Perm ((t,v) :: xs.filter fun q=>!(q.1 ==t))
 | [],_,h=>by simp at h
 |(k,x) :: r,hd,h=>by
  rw[yi,List.nodup_cons]at hd;rw[yi,Ι];by_cases hk:k=t
  .subst hk;have e:(r.map fun q=>if q.1=k then (q.1,v)else q)=r:=by
    conv=>rhs;rw[← List.map_id r]
    refine List.map_congr_left fun q hq=>?_;have:q.1≠k:=fun e=>hd.1 (yP.2 ⟨q,hq,e⟩);rw[yf this];rfl
   rw[yg rfl,yf sm,e,C6 hd.1]
  .rw[yi,Θ]at h;have a:=h.resolve_left (fun e=>hk e.symm);rw[yf hk,yg (by simp[hk])];exact ((C7 hd.2 a).cons _).trans (List.Perm.swap _ _ _)
theorem zfU(t:List UInt8)(v:ω)(xs:List (List UInt8×ω)):(xs.map fun q=>if q.1=t then (q.1,v)else q).map (·.1)=xs.map (·.1):=by
 rw[List.map_map];refine List.map_congr_left fun q _=>?_;show (if q.1=t then (q.1,v)else q).1=q.1
 split<;>rfl
theorem zfV{v:ω}{xs:List (List UInt8×ω)}(hd:(xs.map (·.1)).Nodup)(h:t∈xs.map (·.1)):Zl (xs++[(t,v)])=Zl (xs.map fun q=>if q.1=t then (q.1,v)else q):=by
 rw[We,NC xs hd,NC _ (by rw[zfU];exact hd)];have a:=(sorted_put (k:=.string t) (d:=.held v) (E:=YM xs) (E':=YM (xs.map fun q=>if q.1=t then (q.1,v)else q)) ⟨_,rfl⟩ (Dr xs) (Ds hd) (by
  rw[Dt];exact (C7 hd h).map _)).1
 rw[a];rfl
theorem zfW{xs:List (List UInt8×ω)}(hd:(xs.map (·.1)).Nodup):(Zl xs).del (.string t)=Zl (xs.filter fun q=>!(q.1 ==t)):=by
 rw[NC xs hd,NC _ ((List.filter_sublist.map _).nodup hd)];have a:=(sorted_del (k:=.string t) (E:=YM xs) (E':=YM (xs.filter fun q=>!(q.1 ==t))) (Dr xs) (Ds hd) (by rw[Dt])).1;rw[a];rfl
theorem zfX:∀ xs:List (List UInt8×ω),Maps.Tidy (Zl xs)/\Maps.size (Zl xs)<=xs.length:=by
 refine UD ⟨Maps.tidy_empty,ye _⟩ ?_;rintro l ⟨k,v⟩ ⟨a,b⟩;rw[We];refine⟨a.put (show WideAt.IsKeyLit (.string k)from trivial) _,?_⟩;rw[Maps.size_put a,yh,yS];split<;>omega
theorem Du{xs:List (List UInt8×ω)}(h:w.ownsMap prog 9 RH b n (Zl xs)):w.ownsMap prog 9 RH b xs.length (Zl xs):=by
 have f:=(zfX xs).2;obtain⟨g,a,i,j,k,d⟩:=h;refine⟨g,a,i,j,?_,d⟩;rw[d]at f;simpa [Maps.size,length_sorted]using f
theorem C8(b n:Nat)(D:DataW ω)(w:Wo)(hown:w.ownsMap prog 9 RH b n D):
  δ prog 266 #[.map (η b)] w fun e w'=>e=ε (.map (η w))/\w'.ownsMap prog 9 RH w n D/\Below w w w':=by
 have i:=hown.lt;obtain⟨d,a,h,F,j,g⟩:=hown;have k:=fun w=>run_eql_map_nil_sl (P:=prog) w 210 _ _ (η b) underlying210;have f:Hid ((w.alloc (.map d a)).ownsMap prog 9 RH w n D/\Below w w (w.alloc (.map d a))):=⟨⟨d,a,(MapKept.heap_alloc w _).1,F,j,g⟩,(yI _ w).alloc (ye _) _⟩;go_in;go_wp2;rw[run_callFunc_extern func281 kr kr kr (e:=Extern.MapsClone.clone) kr,run_maps_clone_sl w 210 h];simp only[Result.andThen];rw[Oper.upon_value];go_wp2;rw[run_typeAssert_map_sl _ 210 _ _ _ _ underlying210];simp only[Result.andThen];rw[Oper.upon_value];go_wp2;go_ret;exact⟨rfl,(uh f).1,(uh f).2⟩
theorem zfY{xs:List (List UInt8×ω)}(h:w.ownsMap prog 9 RH b n (Zl xs))(hn:n<=10000000)(key:List UInt8)(hk:key.length<=1048576)(v:ω):
  ∃ w',(Instr.mapUpdate 210 (.map (η b)) (ze key) v).run prog w= .ok () w'/\w'.ownsMap prog 9 RH b (n+1) (Zl (xs++[(key,v)]))/\w.grownBy w' (η b):=by
 obtain⟨w',a,d,f⟩:=h.update (Maps.string_keyed underlying9) underlying210 mo (SC key hk) (show RH v=η (.held v,[])from rfl);exact⟨w',a,by rw[We];exact d,f⟩
def C9(w:Wo)(xs:List (List UInt8×ω))(e:Ending)(w':Wo):Prop:=∃ ob b n,e=ε (π (η ⟨ob,0,ν⟩))/\Bw w w'/\ob<w'.heap.size/\b<w'.heap.size/\w'.heap[ob]?=η (χ #[.map (η b)] 212 (0,0))/\w'.ownsMap prog 9 RH b n (Zl xs)
theorem Ea(ob b n:Nat)(xs:List (List UInt8×ω))(t:List UInt8)(v:ω)(w:Wo)(hob:w.heap[ob]?=η (χ #[.map (η b)] 212 (0,0)))(hown:w.ownsMap prog 9 RH b n (Zl xs))(hn:n<=10000000)(ht:t.length<=1048576):
  δ prog 265 #[ob,(ze t),v] w (C9 w (xs++[(t,v)])):=by
 have j:=zb (C8 b n _ w hown);have c0:=Zw hob;go_in;go_wp2_with fail;go_call j as e w1 ⟨rfl,o1,b1⟩;have m:=o1.lt;obtain⟨r,i,p,h⟩:=zfY o1 hn t ht v;have g:=b1.grown h b1.size (fun k hk=>by injection hk with hk;omega);have o:=h.size;generalize hB:w.heap.size=B at *;have d:=zb hB;have f:=zb p;have a:=zb g;generalize ze t=q at *;go_wp2;go_ret;refine⟨_,_,_,rfl,(by have l:=uh d;exact (a.mono om).alloc om _),?_,?_,yH _ _,f.alloc _⟩
 all_goals simp
 all_goals omega
theorem NE(m:JM):QE m=m.toL.map (·.1):=Jl m
theorem Eb(t:List UInt8)(u:JV):∀ m:JM,JM.ofL (m.toL++[(t,u)])=m.app (.cons t u .nil)
 | .nil=>rfl
 | .cons k v r=>by
  show JM.ofL ((k,v) ::(r.toL++[(t,u)]))= .cons k v (r.app (.cons t u .nil))
  rw[JM.ofL,Eb t u r]
theorem Ec  {m:JM} {xs:List (List UInt8×ω)}    {ob:Nat} (hb:Below w w w1) (hm:ZE w (fun k=>k<w.heap.size) m xs) (hd:(m.toL.map (·.1)).Nodup) (hu:zi w (fun k=>k<w.heap.size) u y)
  (h1:ob<w1.heap.size) (h2:b<w1.heap.size) (h3:w1.heap[ob]?=η (χ #[.map (η b)] 212 (0,0))) (h4:w1.ownsMap prog 9 RH b n (Zl (xs++[(t,y)]))):
  zT w1 (if (zK (.obj m) t).isSome then qS (.obj m) t u else .obj (JM.ofL (m.toL++[(t,u)]))) (φ 209 ob):=by
 have a:xs.map (·.1)=m.toL.map (·.1):=by rw[(Vi m xs hm).1,NE]
 have j:(xs.map (·.1)).Nodup:=by rw[a];exact hd
 have d:=ZE.keep (fun k a=>hb.block k a) (fun _ a=>yF a hb.size) _ _ hm;have g:=zi.keep (fun k a=>hb.block k a) (fun _ a=>yF a hb.size) _ _ hu;have f:(zK (.obj m) t).isSome=ξ↔t∈xs.map (·.1):=by
  rw[a,VZ,Option.isSome_map,List.find?_isSome];constructor
  .rintro⟨q,l,e⟩;exact yP.2 ⟨q,l,by simpa using e⟩
  .intro h;obtain⟨q,l,e⟩:=yP.1 h;exact⟨q,l,by simpa using e⟩
 by_cases i:(zK (.obj m) t).isSome=ξ
 .rw[yg i];show zi w1 _ (.obj (JM.ofL (m.toL.map fun q=>if q.1=t then (q.1,u)else q))) _
  rw[zfV j (f.1 i)]at h4;rw[zi];refine⟨ob,b,_,_,rfl,h1,h2,h3,Du h4,ye _,?_⟩;refine Dp t g _ _ ?_;rw[JM.ofL_toL];exact d
 .rw[yf i];show zi w1 _ (.obj (JM.ofL (m.toL++[(t,u)]))) _
  rw[zi];refine⟨ob,b,_,_,rfl,h1,h2,h3,Du h4,ye _,?_⟩;rw[Eb];refine ZE.app _ _ _ _ d ?_;rw[ZE];exact⟨y,[],rfl,g,by rw[ZE]⟩
theorem Dv(h:Zv w S l xs):∀ u∈xs,u.oneCell'=ξ:=fun u hu=>by
 obtain⟨j,b,rfl⟩:=List.getElem_of_mem hu;obtain⟨d,a⟩:=Yo l xs h;obtain⟨t,p,e⟩:=Y1 (a j b om);rw[e];rfl
theorem Dw(hb:Below w w w1)(ho:w1.ownsRow w 65 1 r n xs)(hn:n=xs.length)(hl:Zv w (fun k=>k<w.heap.size) (JL.ofL L) xs):
  zT (w1.alloc (χ #[r] 149)) (.arr (JL.ofL L)) (φ 146 w1):=by
 subst hn;have d:=zt w1 (χ #[r] 149);have a:w1.heap.size<(w1.alloc (χ #[r] 149)).heap.size:=sm;show zi _ _ _ _
 rw[zi];refine⟨w1,r,xs,rfl,a,yH _ _,⟨qH (Zh ho d) (yu _),fun g hg=>?_⟩,?_⟩
 .have:=(ho.lt g hg).2;omega
 .have b:=zh hb d;exact Zv.keep (fun k hk=>b.block k hk) (fun _ hk=>yF hk b.size) _ _ hl
theorem NG(h:(ct (.arr l)).length<=N):l.toL.length<=N:=by
 have:=X5 l;have a:l.toL.length<=hold l.toL.length:=by unfold hold;omega
 omega
theorem Ed{m:JM}(h:(ct (.obj m)).length<=N):m.toL.length<=N:=by
 have:=Y6 m;have a:m.toL.length<=hold m.toL.length:=by unfold hold;omega
 omega
theorem zfZ(v u c:JV)(t:List UInt8)(w:Wo)(ty ty':TypeId)(p p':ω)(hv:zx v)(hc:zK v t=η c)(ht:t.length<=1048576)(hl:(ct v).length<=1000000)(hr:zT w v (φ ty p))(hu:zT w u (φ ty' p')):
  δ prog 246 #[φ ty p,(ze t),φ ty' p'] w fun e w'=>Below w w w'/\∃ t' q,e=ε (φ t' q)/\zT w' (qS v t u) (φ t' q):=by
 cases v with
 | arr l=>
  have d:=hr;unfold zT at d;rw[zi]at d;obtain⟨Q,sv,o,h,W,H,D,z⟩:=d;injection h with h1 h2;subst h1;subst h2;obtain⟨a,g,G,rfl,B,y⟩:=Gt D;obtain⟨A,_⟩:=Yo l o z;rw[JO]at hc;obtain⟨i,hx,I⟩:=Κ.1 hc;have T:i<o.length:=by rw[A];exact (Η.1 I).1
  obtain⟨rfl,hSg⟩:=B om;have C:=NG hl;have hc0:w.cell? Q=η (ς (η g) o.length G):=by rw[yG H];rfl
  have t1:∀ w:Wo,(Instr.typeAssert (φ 146 Q) 65 146 ξ).run prog w= .ok (.tuple #[Q,θ ξ]) w:=fun _=>by kernel_rfl
  have M:=Ng (ze t) w (by rw[zL];exact ht);rw[Zb]at M;have V:J9 t= .tuple #[ι κ (i:Int),θ ξ]:=by unfold J9;rw[hx]
  rw[V]at M;have O:=zb M;have HC:=zb (zd5 ⟨g,0,ν⟩ g 0 G o w ⟨fun _=>rfl,fun j hj=>by rw[Nat.zero_add];exact y j hj⟩ (Dv z) om);have s:Hid (∀ (w1:Wo) (r:ω),Below w w w1->w1.ownsRow w 65 1 r o.length (o.set i (φ ty' p'))->zT (w1.alloc (χ #[r] 149)) (qS (.arr l) t u) (φ 146 (π (η ⟨w1,0,ν⟩)))):=fun w1 r hb ho=>by
   have e:qS (.arr l) t u= .arr (JL.ofL (l.toL.set i u)):=by simp only[qS,hx]
   rw[e];exact Dw hb ho sm (zfT om (by rw[JL.ofL_toL];exact z) hu)
  rw[← A]at C;clear hr hu hx hc I D y z M V hv hl H B A;generalize ze t=st at *;go_in;go_wp2_with fail;go_call O as e w1 ⟨rfl,rfl⟩;go_wp2_with fail;go_call HC as e w1 ⟨r,rfl,o1,b1⟩;obtain⟨F,f,rfl⟩:∃ F f,r=ς (η ⟨F,0,ν⟩) o.length f:=by
   rcases o1.2 with ⟨_,h0⟩ |⟨F,f,cur,hv,_⟩
   .omega
   .exact⟨F,f,hv⟩
  have L:=o1.stored i (φ ty' p');have hfz:=o1.frozenAt i;have hge:=(o1.lt F rfl);have S:∃ x,w1.cell? ⟨F,i,ν⟩=η x:=⟨_,by
   have:=World.ownsRow.cells o1 rfl i o[i] (yy T);rw[Addr.add_lit,Nat.zero_add]at this;exact this⟩
  obtain⟨x0,hcx⟩:=S;have R:=b1.grown L.2 b1.size (fun k hk=>by injection hk with hk;omega);have E:=zb R;have P:=zb L.1;go_wp2;go_ret;exact⟨E.alloc (by have:=E.size;omega) _,_,_,rfl,(by have h:=uh s _ _ E P;rw[show (w1.setCell ⟨F,i,ν⟩ (Value.iface ty' p')).heap.size=w1.heap.size by simp]at h;exact h)⟩
 | obj m=>
  have d:=hr;unfold zT at d;rw[zi]at d;obtain⟨N,mb,nn,o,h,Y,X,U,J,hnn,K⟩:=d;injection h with h1 h2;subst h1;subst h2;have hd:=((Jv m).1 hv).1;have A:o.length=m.toL.length:=by have:=congrArg Γ (Vi m o K).1;rw[NE]at this;simpa using this
  have C:=Ed hl;have t1:∀ w:Wo,(Instr.typeAssert (φ 209 N) 65 146 ξ).run prog w= .ok (.tuple #[π ν,θ ζ]) w:=fun _=>by kernel_rfl
  have t2:∀ w:Wo,(Instr.typeAssert (φ 209 N) 65 209 ξ).run prog w= .ok (.tuple #[N,θ ξ]) w:=fun _=>by kernel_rfl
  have HW:=zb (Ea N mb nn o t (φ ty' p') w U J om ht);have s:Hid (∀ (w1:Wo) (ob' b n:Nat),Below w w w1->ob'<w1.heap.size->b<w1.heap.size->w1.heap[ob']?=η (χ #[.map (η b)] 212 (0,0))->w1.ownsMap prog 9 RH b n (Zl (o++[(t,φ ty' p')]))->zT w1 (qS (.obj m) t u) (φ 209 ob')):=fun w1 ob' b n hb a1 a2 a3 a4=>by
   have:=Ec hb K hd hu a1 a2 a3 a4;rw[hc]at this;exact this
  generalize ze t=st at *;go_in;go_wp2_with fail;go_call HW as e w1 ⟨ob',b',n',rfl,b1,a1,a2,a3,a4⟩;have HF:=zb (uh s w1 ob' b' n' b1 a1 a2 a3 a4);have Z:=zb b1;go_wp2;go_ret;exact⟨Z,_,_,rfl,HF⟩
 | _=>cases hc
def VL(fid:FuncId):Prop:=∀ (args:Array ω) (w:Wo),Sem.run prog (callFunc fid args) w= .ok (.enter fid args) w
theorem zf0:VL 242:=fun args w=>by simp[callFunc,go_sem,func242,Result.andThen];rfl
theorem zf1:VL 244:=fun args w=>by simp[callFunc,go_sem,func244,Result.andThen];rfl
theorem zf2:VL 219:=fun args w=>by simp[callFunc,go_sem,func219,Result.andThen];rfl
def UO(w0:Wo)(fid:FuncId)(caps:Array ω)(f:JV->Option JV):Prop:=
 ∀ (wx:Wo) (h:JV) (ty:TypeId) (p:ω),Bw w0 wx->zx h->(ct h).length<=500000->zT wx h (φ ty p) ->
  δ prog fid (#[φ ty p]++caps) wx (Zq wx (Z9 3 (f h)))
theorem UO.next{w0:Wo}{fid:FuncId}{caps:Array ω}{f:JV->Option JV}(h:UO w0 fid caps f)(hb:Below w0 w0 w1):UO w1 fid caps f:=
 fun wx v ty p hx=>h wx v ty p (zh hb hx)
theorem NH(fid:FuncId)(hent:VL fid)(caps:Array ω)(f:JV->Option JV):∀ (ts:List (List UInt8)) (v:JV) (a:Option Addr) (g off cap:Nat) (w:Wo) (ty:TypeId) (p:ω),UO w fid caps f->zx v->(ct v).length<=500000->zT w v (φ ty p)->SS w a g off (ts.map zG)->ts.length<=cap->cap<=9223372036854775807->(∀ t∈ts,t.length<=1048576) ->
  δ prog 218 #[φ ty p,ς a ts.length cap,.func (Fn.func fid) #[] caps] w (Zq w (Z9 3 (qI f v ts)))
 | [],v,a,g,off,cap,w,ty,p,hF,hv,hl,hr,hs,hcap,hcap2,ht=>by
  have HF:=zb (hF w v ty p (yI _ _) hv hl hr);rw[zcp];have L:∀ (w:Wo),Sem.run prog (callFunc fid (#[φ ty p]++caps)) w= .ok (.enter fid (#[φ ty p]++caps)) w:=fun w=>hent _ w;go_in;go_wp2_with fail;go_call HF as e w1 ⟨b1,⟨c,ev,i,rfl,m⟩ |⟨u,l,q,i,rfl,m⟩⟩
  .have o:Hid (Zq w (Z9 3 (f v)) (ε (τ #[.nilIface,ev])) w1):=⟨b1,.inl ⟨c,ev,i,rfl,m⟩⟩;obtain⟨fb,rfl,_⟩:=m;go_wp2;go_ret2;exact o
  .have o:Hid (Zq w (Z9 3 (f v)) (ε (τ #[φ l q,.nilIface])) w1):=⟨b1,.inr ⟨u,l,q,i,rfl,m⟩⟩;go_wp2;go_ret2;exact o
 | t :: ts,v,a,g,off,cap,w,ty,p,hF,hv,hl,hr,hs,hcap,hcap2,ht=>by
  have z:=ht t sm;obtain rfl:=hs.ad sm;have s:w.cell? ⟨g,off,ν⟩=η (ze t):=by
   have:=hs.cell 0 sm;rw[Nat.add_zero]at this;rw[this];simp[zG,ze]
  have M:g<w.heap.size:=yK _ _ s;have I:Hid (∀ a',(0<ts.length->a'=η ⟨g,off+1,ν⟩)->SS w a' g (off+1) (ts.map zG)):=fun a' ha=>⟨fun h=>ha (by simpa using h),fun j hj=>by
   have:=hs.cell (j+1) (by simpa using hj);rw[show off+(j+1)=off+1+j by omega]at this;rw[this];simp⟩
  have A:=zb (Fp v hv.tw t z ty p w _ hr);have O:¬ ((ts.length:Int)+1=0):=om;simp only[yp]at hcap ⊢
  cases hc:zK v t with
  | none=>
   have G:Hid (qI f v (t :: ts)=ν):=zcq hc;rw[hc]at A;generalize ze t=S at *;go_in;go_wp2_with fail;go_call A as e w1 ⟨rfl,⟨x,rfl,-⟩ |⟨x,u',rfl,h0,-⟩⟩
   .go_wp2;go_ret2;exact⟨zt _ _,.inl ⟨3,_,by rw[uh G];rfl,rfl,_,rfl,yH _ _⟩⟩
   .cases h0
  | some c=>
   have N:(ct c).length<=500000:=by have:=(GJ hc hv.ok hv.tw).2.2.1;omega
   have HR:Hid (∀ b r a' cap',zT w c (φ b r)->(0<ts.length->a'=η ⟨g,off+1,ν⟩)->ts.length<=cap'->cap'<=9223372036854775807->δ prog 218 #[φ b r,ς a' ts.length cap',.func (Fn.func fid) #[] caps] w (Zq w (Z9 3 (qI f c ts)))):=fun b r a' cap' hx i m h3=>
    NH fid hent caps f ts c a' g (off+1) cap' w b r hF (hv.child hc) N hx (uh I _ i) m h3 (fun x hx=>ht x (by simp[hx]))
   have P:Hid (∀ (d:Wo) u l q,Below w w d->zT d u (φ l q)->δ prog 246 #[φ ty p,(ze t),φ l q] d fun e w'=>Below d d w'/\∃ l q,e=ε (φ l q)/\zT w' (qS v t u) (φ l q)):=fun d u l q hb hx=>
    zfZ v u c t d ty l p q hv hc z om (hr.next hb) hx
   have n:Hid (qI f v (t :: ts)=(qI f c ts).map (qS v t)):=zcr hc;have K:(ts.length:Int)+1<=(cap:Int):=om;have E:=zb fun d (hb:Below w w d)=>(hb.cell (p:=⟨g,off,ν⟩) M).trans s;rw[hc]at A;generalize ze t=S at *;go_in;go_wp2_with fail;go_call A as e w1 ⟨rfl,⟨x,rfl,h0⟩ |⟨x,u',rfl,h0,hx⟩⟩
   .cases h0
   .injection h0 with h0;subst h0;obtain⟨b,r,rfl⟩:=Y1 hx;have H:=zb (fun a' cap'=>uh HR b r a' cap' hx);go_wp2_with fail
    all_goals refine (uh H _ _ (fun _=>by first | rfl |(exfalso;omega)) om om).mono ?_
    all_goals
     rintro e d ⟨B,⟨k,ev,i,rfl,m⟩ |⟨u,l,q,i,rfl,m⟩⟩
     .have Q:Z9 3 (qI f v (t :: ts))= .inl k:=by
       rw[uh n]
       cases C:qI f c ts with
       | none=>rw[C]at i;exact i
       | some y=>rw[C]at i;cases i
      have o:Hid (Zq w (Z9 3 (qI f v (t :: ts))) (ε (τ #[.nilIface,ev])) d):=⟨B,.inl ⟨k,ev,Q,rfl,m⟩⟩;obtain⟨fb,rfl,-⟩:=m;go_wp2;go_ret2;exact o
     .have C:=Jh i;have J:=zb (uh P d u l q B m);have R:=uh E d B;have o:Hid (qI f v (t :: ts)=η (qS v t u)):=by show _=_;rw[uh n,C];rfl
      have D:=zb B;go_wp2_with fail;go_call J as e w3 ⟨b3,t3,q3,rfl,h3⟩;have F:Hid (Zq w (Z9 3 (qI f v (t :: ts))) (ε (τ #[φ t3 q3,.nilIface])) w3):=⟨zh D b3,.inr ⟨_,t3,q3,by rw[uh o];rfl,rfl,h3⟩⟩;go_wp2;go_ret2;exact F
theorem Ee(h:WL w S (ς a n cap) xs):xs.length<=cap/\cap<=9223372036854775807:=by
 rcases h.1.2 with ⟨b,k⟩ |⟨g,d,f,b,_,_,i,j,_⟩
 .injection b with _ _ h3;subst h3;exact⟨om,om⟩
 .injection b with _ _ h3;subst h3;exact⟨i,by unfold maxLen at j;omega⟩
theorem Fy{B:Nat}(h:w.ownsRow B 65 1 r n xs):∃ a c,r=ς a n c:=by
 rcases h.2 with ⟨b,i⟩ |⟨g,d,f,b,_⟩
 .exact⟨ν,0,by rw[b,i]⟩
 .exact⟨_,_,b⟩
theorem zf3{xs:List (List UInt8×ω)}(h:w.ownsMap prog 9 RH b n (Zl xs))(hd:(xs.map (·.1)).Nodup)(key:List UInt8)(hk:key.length<=1048576)(ty:TypeId):
  ∃ w',(Builtin.delete_ #[210,9] ty #[.map (η b),(ze key)]).run prog w= .ok (.tuple #[]) w'/\w'.ownsMap prog 9 RH b n (Zl (xs.filter fun q=>!(q.1 ==key)))/\w.grownBy w' (η b):=by
 obtain⟨w',a,d,f⟩:=h.drop (Maps.string_keyed underlying9) underlying210 (SC key hk) ty;exact⟨w',a,by rw[← zfW hd];exact d,f.grown⟩
theorem zf4(v:JV)(t:List UInt8)(w:Wo)(ty:TypeId)(p:ω)(hv:zx v)(ht:t.length<=1048576)(hl:(ct v).length<=1000000)(hr:zT w v (φ ty p)):
  δ prog 245 #[φ ty p,(ze t)] w (Zq w (Z9 3 (Vf v t))):=by
 have O:=zb (Fp v hv.tw t ht ty p w _ hr)
 cases hc:zK v t with
 | none=>
  have HNO:Hid (Vf v t=ν):=by show _=_;unfold Vf;rw[hc];rfl
  rw[hc]at O;generalize ze t=st at *;go_in;go_wp2_with fail;go_call O as e w1 ⟨rfl,⟨x,rfl,-⟩ |⟨x,u',rfl,h0,-⟩⟩
  .go_wp2;go_ret2;exact⟨zt _ _,.inl ⟨3,_,by rw[uh HNO];rfl,rfl,_,rfl,yH _ _⟩⟩
  .cases h0
 | some c=>
  have H:Hid (Vf v t=η (Qx v t)):=by show _=_;unfold Vf;rw[hc];rfl
  rw[hc]at O
  cases v with
  | obj m=>
   have z:=hr;unfold zT at z;rw[zi]at z;obtain⟨ob,mb,nn,f,h,hSob,hSmb,hob,W,hnn,X⟩:=z;injection h with h1 M;subst h1;subst M;have hd:=((Jv m).1 hv).1;have hdx:(f.map (·.1)).Nodup:=by rw[(Vi m f X).1,NE];exact hd
   have t1:∀ w:Wo,(Instr.typeAssert (φ 209 ob) 65 146 ξ).run prog w= .ok (.tuple #[π ν,θ ζ]) w:=fun _=>by kernel_rfl
   have t2:∀ w:Wo,(Instr.typeAssert (φ 209 ob) 65 209 ξ).run prog w= .ok (.tuple #[ob,θ ξ]) w:=fun _=>by kernel_rfl
   have HW:=zb (C8 mb nn _ w W);have c0:=Zw hob;have A:Hid (∀ (w1:Wo) (b n:Nat),Below w w w1->b<w1.heap.size->w1.ownsMap prog 9 RH b n (Zl (f.filter fun q=>!(q.1 ==t)))->zT (w1.alloc (χ #[.map (η b)] 212)) (Qx (.obj m) t) (φ 209 w1)):=fun w1 b n hb hlt ho=>by
    have Q:=zt w1 (χ #[.map (η b)] 212);have hz:(w1.alloc (χ #[.map (η b)] 212)).heap.size=w1.heap.size+1:=sm;have M:=zh hb Q;show zi _ _ (.obj (JM.ofL (m.toL.filter fun q=>!(q.1 ==t)))) _
    rw[zi];refine⟨w1,b,_,_,rfl,om,om,yH _ _,(Du ho).alloc _,ye _,Dq t _ _ ?_⟩;rw[JM.ofL_toL];exact ZE.keep (fun k B=>M.block k B) (fun _ B=>yF B M.size) _ _ X
   have aa:=zb hdx;go_in;go_wp2_with fail;go_call O as e w1 ⟨rfl,⟨x,rfl,h0⟩ |⟨x,u',rfl,h0,-⟩⟩
   .cases h0
   go_wp2_with fail;go_call HW as e w1 ⟨rfl,o1,b1⟩;have hg1:=o1.lt;obtain⟨w2,hrun,o2,g2⟩:=zf3 o1 aa t ht 0;have T:=b1.grown g2 b1.size (fun k B=>by injection B with B;omega);have hz2:=g2.size;have HF:=zb (uh A w2 _ _ T om o2);have HB:=zb T;generalize ze t=st at *;go_wp2;go_ret2;exact⟨HB.alloc om _,.inr ⟨_,_,_,by rw[uh H];rfl,rfl,HF⟩⟩
  | arr l=>
   have z:=hr;unfold zT at z;rw[zi]at z;obtain⟨ab,sv,f,h,hSab,S,D,E⟩:=z;injection h with h1 M;subst h1;subst M;obtain⟨a,g,d,rfl,I,C⟩:=Gt D;obtain⟨F,_⟩:=Yo l f E;rw[JO]at hc;obtain⟨i,hx,U⟩:=Κ.1 hc;have hil:i<f.length:=by rw[F];exact (Η.1 U).1
   obtain⟨rfl,hSg⟩:=I om;have J:=NG hl;have hc0:w.cell? ab=η (ς (η g) f.length d):=by rw[yG S];rfl
   have t1:∀ w:Wo,(Instr.typeAssert (φ 146 ab) 65 146 ξ).run prog w= .ok (.tuple #[ab,θ ξ]) w:=fun _=>by kernel_rfl
   have Y:=Ng (ze t) w (by rw[zL];exact ht);rw[Zb]at Y;have e0:J9 t= .tuple #[ι κ (i:Int),θ ξ]:=by unfold J9;rw[hx]
   rw[e0]at Y;have HI':=zb Y;have hiI:(i:Int)<(f.length:Int):=om;have y:=Ee D;have hcap1:=y.1;have hcap2:=y.2;have hcI:(i:Int)<=(d:Int):=om;obtain⟨j,Z⟩:∃ j,j=i+1:=⟨_,rfl⟩;have hwj:IntKind.i64.wrap ((i:Int)+1)=(j:Int):=by rw[IntKind.wrap_i64,Z];omega
   have hjI:(j:Int)<=(f.length:Int):=om;have hjn:j<=f.length:=om;have A:Hid (∀ (w1:Wo) (r:ω) (n:Nat),Below w w w1->w1.ownsRow w 65 1 r n (f.take i++f.drop j)->n=(f.take i++f.drop j).length->zT (w1.alloc (χ #[r] 149)) (Qx (.arr l) t) (φ 146 w1)):=fun w1 r n hb ho hn=>by
    have e:Qx (.arr l) t= .arr (JL.ofL (l.toL.eraseIdx i)):=by simp only[Qx,hx]
    rw[e];refine Dw hb ho hn ?_;rw[Z];exact zfS i (by rw[JL.ofL_toL];exact E)
   have K:f.length<=1000000:=by rw[F];exact J
   have G:Hid (δ prog 263 #[ς (η w) 2 2] (w.alloc (χ #[ς (η g) i d,ς (if d=j then η g else η ⟨g,j,ν⟩) (f.length - j) (d - j)] 78)).drew fun e w'=>∃ r n,e=ε r/\w'.ownsRow w 65 1 r n (f.take i++f.drop j)/\n=(f.take i++f.drop j).length/\Below w w w'):=by
    have Q:=(zt w (χ #[ς (η g) i d,ς (if d=j then η g else η ⟨g,j,ν⟩) (f.length - j) (d - j)] 78)).drew;have kA:=yH w (χ #[ς (η g) i d,ς (if d=j then η g else η ⟨g,j,ν⟩) (f.length - j) (d - j)] 78);have V:(f.take i).length=i:=by rw[ym];omega
    have L:(f.drop j).length=f.length - j:=yv;have P:=Dv E;have hgl:=hSg;have hVR:VR w (η g) g 0 f:=⟨fun _=>rfl,fun k B=>by rw[Nat.zero_add];exact C k B⟩;have R:=hVR.below Q;refine (Bt [⟨η g,g,0,d,f.take i⟩,⟨if d=j then η g else η ⟨g,j,ν⟩,g,j,d - j,f.drop j⟩] w _ ?_ ?_ ?_ sm).mono ?_
    .intro k B
     match k,B with
     | 0,_=>show _=η (Μ _ (f.take i).length _);rw[V];exact yG kA 0
     | 1,_=>show _=η (Μ _ (f.drop j).length _);rw[L];exact yG kA 1
    .intro s hs;rcases Θ.1 hs with rfl | hs
     .exact⟨⟨fun _=>rfl,fun k B=>by
       have hk':k<i:=by simpa [V]using B
       rw[R.cell k om];simp⟩,fun u hu=>P u (List.mem_of_mem_take hu),fun h=>by cases h⟩
     .obtain rfl:=Ζ.1 hs;refine⟨⟨fun h0=>?_,fun k B=>?_⟩,fun u hu=>P u (List.mem_of_mem_drop hu),fun h=>?_⟩
      .have h0':0<f.length - j:=by rw[← L];exact h0
       show (if d=j then η _ else η _)=_
       rw[yf om]
      .have hk':k<f.length - j:=by rw[← L];exact B
       have:=R.cell (j+k) om;rw[Nat.zero_add]at this;show World.cell? _ ⟨g,j+k,ν⟩=η (f.drop j)[k]
       rw[this];simp
      .have h':(if d=j then η (g:Addr)else η ⟨g,j,ν⟩)=ν:=h;split at h'<;>cases h'
    .simp[Qi];omega
    .rintro e w' ⟨r,rfl,o,b⟩;have ef:Qi [⟨η g,g,0,d,f.take i⟩,⟨if d=j then η g else η ⟨g,j,ν⟩,g,j,d - j,f.drop j⟩]=f.take i++f.drop j:=by simp[Qi]
     rw[ef]at o;exact⟨r,_,rfl,qH o Q.size,rfl,zh Q b⟩
   have HJ:=zb Z;clear Z;rw[← F]at J;clear hr hx hc U D C E Y e0 hv hl S I F y K;generalize ze t=st at *;go_in;go_wp2_with fail;go_call O as e w1 ⟨rfl,⟨x,rfl,h0⟩ |⟨x,u',rfl,h0,-⟩⟩
   .cases h0
   go_wp2_with fail;go_call HI' as e w1 ⟨rfl,rfl⟩;go_wp2_with fail;go_region_law (go_simp;go_call G as e w4 ⟨r,n,rfl,o4,hn4,b4⟩;obtain⟨ra,rc,rfl⟩:=Fy o4;have HF:=zb (uh A w4 _ n b4 o4 hn4);have N:=zb b4;clear A G o4 hn4 b4)
   all_goals
    generalize (if d=j then η (g:Addr)else η ⟨g,j,ν⟩)=ad at *;go_wp2;go_ret2;exact⟨N.alloc N.size _,.inr ⟨_,_,_,by rw[uh H];rfl,rfl,HF⟩⟩
  | _=>cases hc
theorem zf5(h:WL w S (ς a n cap) xs):(a=ν/\cap=0/\n=0/\xs=[])∨∃ g,a=η ⟨g,0,ν⟩/\S g/\n=xs.length/\VR w (η ⟨g,0,ν⟩) g 0 xs:=by
 obtain⟨⟨k,l⟩,m⟩:=h;rcases l with ⟨d,i⟩ |⟨g,f,b,d,o,p,r⟩
 .injection d with e1 e2 e3;exact .inl ⟨e1,e3,e2,yO i⟩
 .injection d with e1 e2 e3;subst e1;subst e2;subst e3;refine .inr ⟨g,rfl,m g rfl,rfl,fun _=>rfl,fun j hj=>?_⟩;have:=World.ownsRow.cells (w:=w) (base:=0) (e:=65) (size:=1) ⟨k,.inr ⟨g,cap,b,rfl,o,p,r⟩⟩ rfl j xs[j] (yy hj)
  rwa [Addr.add_lit]at this
theorem VR.take(h:VR w a g off xs)(i:Nat):VR w a g off (xs.take i):=
 ⟨fun h0=>h.ad (by rw[ym]at h0;omega),fun j hj=>by
  have b:j<xs.length:=by rw[ym]at hj;omega
  rw[h.cell j b];simp⟩
theorem VR.drop(h:VR w a g off xs)(i:Nat){a':Option Addr}(ha:i<xs.length->a'=η ⟨g,off+i,ν⟩):VR w a' g (off+i) (xs.drop i):=
 ⟨fun h0=>ha (by rw[yv]at h0;omega),fun j hj=>by
  have b:i+j<xs.length:=by rw[yv]at hj;omega
  rw[Nat.add_assoc,h.cell (i+j) b];simp⟩
theorem Ef (w:Wo) (y:ω) (hy:y.oneCell'=ξ) (us vs:List ω) (a1 a3:Option Addr) (g1 o1 c1 n1 g3 o3 c3 n3:Nat) (hn1:us.length=n1) (hn3:vs.length=n3) (h1:VR w a1 g1 o1 us) (h3:VR w a3 g3 o3 vs) (k1:a1=ν->c1=0) (k3:a3=ν->c3=0)
  (q1:∀ u∈us,u.oneCell'=ξ) (q3:∀ u∈vs,u.oneCell'=ξ) (hl:us.length+vs.length<=900000):
  δ prog 263 #[ς (η ⟨w.heap.size+1,0,ν⟩) 3 3] ((w.alloc (χ #[y] 65)).alloc (χ #[ς a1 n1 c1,ς (η ⟨w,0,ν⟩) 1 1,ς a3 n3 c3] 78)).drew fun e w'=>∃ r n,e=ε r/\w'.ownsRow w 65 1 r n (us++y :: vs)/\n=(us++y :: vs).length/\Below w w w':=by
 have p:=zt w (χ #[y] 65);have z:(w.alloc (χ #[y] 65)).heap.size=w.heap.size+1:=sm;have q:=yH w (χ #[y] 65);have l:=(zt (w.alloc (χ #[y] 65)) (χ #[ς a1 n1 c1,ς (η w) 1 1,ς a3 n3 c3] 78)).drew;have f:=yH (w.alloc (χ #[y] 65)) (χ #[ς a1 n1 c1,ς (η w) 1 1,ς a3 n3 c3] 78);rw[z]at f;have d:=zh p l;have j:=(l.block w om).trans q;have v:=h1.below d;have x:=h3.below d;refine (Bt [⟨a1,g1,o1,c1,us⟩,⟨η ⟨w,0,ν⟩,w,0,1,[y]⟩,⟨a3,g3,o3,c3,vs⟩] (w.heap.size+1) _ ?_ ?_ ?_ sm).mono ?_
 .intro k g
  match k,g with
  | 0,_=>show _=η (Μ _ us.length _);rw[hn1];exact yG f 0
  | 1,_=>exact yG f 1
  | 2,_=>show _=η (Μ _ vs.length _);rw[hn3];exact yG f 2
 .intro s a;rcases Θ.1 a with rfl | a
  .exact⟨v,q1,k1⟩
  .rcases Θ.1 a with rfl | a
   .refine⟨⟨fun _=>rfl,fun k g=>?_⟩,fun u hu=>by rw[Ζ.1 hu];exact hy,fun h=>by cases h⟩;have i:k=0:=by simpa using g
    subst i;exact yG j 0
   .obtain rfl:=Ζ.1 a;exact⟨x,q3,k3⟩
 .simp[Qi];omega
 .rintro e w' ⟨r,rfl,o,b⟩;have m:Qi [⟨a1,g1,o1,c1,us⟩,⟨η w,w,0,1,[y]⟩,⟨a3,g3,o3,c3,vs⟩]=us++y :: vs:=by simp[Qi]
  rw[m]at o;exact⟨r,_,rfl,qH o d.size,rfl,zh d b⟩
theorem zf6(l:JL)(u:JV)(t:List UInt8)(w:Wo)(ty ty':TypeId)(p p':ω)(ht:t.length<=1048576)(hl:(ct (.arr l)).length<=500000)(hr:zT w (.arr l) (φ ty p))(hu:zT w u (φ ty' p')):
  δ prog 243 #[φ ty p,(ze t),φ ty' p'] w (Zq w (Z9 3 (qE (.arr l) t u))):=by
 have R:=hr;unfold zT at R;rw[zi]at R;obtain⟨Z,sv,B,h,hSab,L,v,H⟩:=R;injection h with h1 h2;subst h1;subst h2;obtain⟨a,g0,F,rfl,_,_⟩:=Gt v;obtain⟨I,_⟩:=Yo l B H;have T:=NG hl;rw[← I]at T;have hc0:w.cell? Z=η (ς a B.length F):=by rw[yG L];rfl
 have t1:∀ w:Wo,(Instr.typeAssert (φ 146 (π (η ⟨Z,0,ν⟩))) 65 146 ξ).run prog w= .ok (.tuple #[π (η ⟨Z,0,ν⟩),θ ξ]) w:=fun _=>by kernel_rfl
 have S:=Ng (ze t) w (by rw[zL];exact ht);rw[Zb]at S;obtain⟨z,W,A⟩:∃ (z:Nat) (W:Bool),J9 t= .tuple #[ι κ (z:Int),θ W]:=by
  unfold J9
  cases Qo t with
  | none=>exact⟨0,ζ,rfl⟩
  | some i=>exact⟨i,ξ,rfl⟩
 obtain⟨i,G⟩:∃ i:Nat,i=if t=[45]then B.length else z:=⟨_,rfl⟩
 obtain⟨b,C⟩:∃ b:Bool,b=if t=[45]then ξ else W:=⟨_,rfl⟩
 have E:qE (.arr l) t u=if b=ξ/\i<=B.length then η (.arr (JL.ofL (l.toL.take i++u :: l.toL.drop i)))else ν:=by
  simp only[qE];by_cases q:t=[45]
  .rw[yg q]at G C ⊢;subst G;subst C;rw[← I];simp
  .rw[yf q]at G C ⊢;subst G;subst C;unfold J9 at A
   cases hx:Qo t with
   | none=>
    rw[hx]at A;injection A with e;have e2:b=ζ:=by have:=congrArg (fun x:Array ω=>x[1]?) e;simp at this;exact this
    rw[e2];simp
   | some j=>
    rw[hx]at A;injection A with e;have e2:b=ξ:=by have:=congrArg (fun x:Array ω=>x[1]?) e;simp at this;exact this
    have e3:i=j:=by have:=congrArg (fun x:Array ω=>x[0]?) e;simp at this;omega
    subst e3;rw[e2,I];simp
 rw[A]at S;have f:=zb S;have J:((ze t).toList ==[45])=decide (t=[45]):=by rw[ByteArray.toList_eq,Zb];by_cases h:t=[45]<;>simp[h]
 have D:=Ee v;have hcap1:=D.1;have hcap2:=D.2;have X:=Dv H;have m:Hid (∀ (w1:Wo) (r:ω) (n:Nat),Below w w w1->w1.ownsRow w 65 1 r n (B.take i++φ ty' p' :: B.drop i)->n=(B.take i++φ ty' p' :: B.drop i).length->zT (w1.alloc (χ #[r] 149)) (.arr (JL.ofL (l.toL.take i++u :: l.toL.drop i))) (φ 146 (π (η ⟨w1,0,ν⟩)))):=fun w1 r n C ho hn=>
  Dw C ho hn (zfR i (by rw[JL.ofL_toL];exact H) hu)
 by_cases s:b=ξ/\i<=B.length
 .have o:Hid (qE (.arr l) t u=η (.arr (JL.ofL (l.toL.take i++u :: l.toL.drop i)))):=zb (by rw[E,yg s]);have hiI:(i:Int)<=(B.length:Int):=om;have hiC:(i:Int)<=(F:Int):=om;have U:=s.2;have K:=zb s.1;have O:(B.take i).length=i:=by rw[ym];omega
  have P:(B.drop i).length=B.length - i:=yv;rcases zf5 v with ⟨rfl,rfl,-,V⟩ |⟨g,rfl,hSg,-,N⟩
  .subst V;have hi0:i=0:=by simpa using U
   subst hi0;have v0:VR w ν 0 0 []:=⟨fun h=>by simp at h,fun j h=>by simp at h⟩;have d:=zb (Ef w (φ ty' p') rfl [] [] ν ν 0 0 0 0 0 0 0 0 rfl rfl v0 v0 (fun _=>rfl) (fun _=>rfl) (fun u hu=>by simp at hu) (fun u hu=>by simp at hu) sm);have y:Hid (∀ (w1:Wo) (r:ω) (n:Nat),Below w w w1->w1.ownsRow w 65 1 r n ([]++φ ty' p' :: [])->n=([]++Value.iface ty' p' :: []).length->zT (w1.alloc (χ #[r] 149)) (.arr (JL.ofL (l.toL.take 0++u :: l.toL.drop 0))) (φ 146 w1)):=fun w1 r n=>uh m w1 r n;clear hr hu v H S hl L I D X E s O P A v0 m;simp only[yE]at hc0;by_cases q:t=[45]
   .rw[yj q]at J;clear C q G;generalize ze t=Y at *;go_in;go_wp2_with fail;go_call f as e w1 ⟨rfl,rfl⟩;clear f;go_wp2_with fail;go_region_law (go_simp;go_call d as e w4 ⟨r,n,rfl,o4,hn4,b4⟩;obtain⟨ra,rc,rfl⟩:=Fy o4;have M:=zb (uh y w4 _ n b4 o4 hn4);have k:=zb b4;clear y d o4 hn4 b4)
    all_goals
     go_wp2;go_ret2;exact⟨k.alloc k.size _,.inr ⟨_,_,_,by rw[uh o];rfl,rfl,M⟩⟩
   .rw[yf q]at G C;rw[yk q]at J;subst G;have Q:W=ξ:=by rw[← C];exact K
    subst Q;clear C q K;generalize ze t=Y at *;go_in;go_wp2_with fail;go_call f as e w1 ⟨rfl,rfl⟩;clear f;go_wp2_with fail;go_region_law (go_simp;go_call d as e w4 ⟨r,n,rfl,o4,hn4,b4⟩;obtain⟨ra,rc,rfl⟩:=Fy o4;have M:=zb (uh y w4 _ n b4 o4 hn4);have k:=zb b4;clear y d o4 hn4 b4)
    all_goals
     go_wp2;go_ret2;exact⟨k.alloc k.size _,.inr ⟨_,_,_,by rw[uh o];rfl,rfl,M⟩⟩
  .have d:=zb (Ef w (φ ty' p') rfl (B.take i) (B.drop i) (η ⟨g,0,ν⟩) (if F=i then η ⟨g,0,ν⟩else η ⟨g,i,ν⟩) g 0 F i g (0+i) (F - i) (B.length - i) O P (N.take i) (N.drop i (fun h=>by rw[yf om,Nat.zero_add])) (fun h=>by cases h) (fun h=>by split at h<;>cases h) (fun u hu=>X u (List.mem_of_mem_take hu)) (fun u hu=>X u (List.mem_of_mem_drop hu)) om);clear hr hu v H S hl L I D X E s O P N A;by_cases q:t=[45]
   .rw[yg q]at G C;rw[yj q]at J;have HII:=zb G;have hiz:(B.length:Int)=(i:Int):=om;clear C q G;generalize ze t=Y at *;go_in;go_wp2_with fail;go_call f as e w1 ⟨rfl,rfl⟩;clear f;go_wp2_with fail;go_region_law (go_simp;go_call d as e w4 ⟨r,n,rfl,o4,hn4,b4⟩;obtain⟨ra,rc,rfl⟩:=Fy o4;have M:=zb (uh m w4 _ n b4 o4 hn4);have k:=zb b4;clear m d o4 hn4 b4)
    all_goals
     generalize (if F=i then η (g:Addr)else η ⟨g,i,ν⟩)=ad at *;go_wp2;go_ret2;exact⟨k.alloc k.size _,.inr ⟨_,_,_,by rw[uh o];rfl,rfl,M⟩⟩
   .rw[yf q]at G C;rw[yk q]at J;subst G;have Q:W=ξ:=by rw[← C];exact K
    subst Q;clear C q K;generalize ze t=Y at *;go_in;go_wp2_with fail;go_call f as e w1 ⟨rfl,rfl⟩;clear f;go_wp2_with fail;go_region_law (go_simp;go_call d as e w4 ⟨r,n,rfl,o4,hn4,b4⟩;obtain⟨ra,rc,rfl⟩:=Fy o4;have M:=zb (uh m w4 _ n b4 o4 hn4);have k:=zb b4;clear m d o4 hn4 b4)
    all_goals
     generalize (if F=i then η (g:Addr)else η ⟨g,i,ν⟩)=ad at *;go_wp2;go_ret2;exact⟨k.alloc k.size _,.inr ⟨_,_,_,by rw[uh o];rfl,rfl,M⟩⟩
 .have o:Hid (qE (.arr l) t u=ν):=zb (by rw[E,yf s]);have q:¬ t=[45]:=fun q=>s ⟨by rw[C,yg q],by rw[G,yg q];exact ye _⟩;rw[yf q]at G C;rw[yk q]at J;subst G;subst C;clear hr hu v H S hl L I D X E A m q;generalize ze t=Y at *
  cases b with
  | false=>
   clear s;go_in;go_wp2_with fail;go_call f as e w1 ⟨rfl,rfl⟩;clear f;go_wp2;go_ret2;exact⟨zt _ _,.inl ⟨3,_,by rw[uh o];rfl,rfl,_,rfl,yH _ _⟩⟩
  | true=>
   have h1:¬ (i:Int)<=(B.length:Int):=fun h=>s ⟨rfl,om⟩;have h2:decide ((i:Int)<=(B.length:Int))=ζ:=yk h1;clear s;go_in;go_wp2_with fail;go_call f as e w1 ⟨rfl,rfl⟩;clear f;go_wp2;go_ret2;exact⟨zt _ _,.inl ⟨3,_,by rw[uh o];rfl,rfl,_,rfl,yH _ _⟩⟩
theorem zf7(v u:JV)(t:List UInt8)(w:Wo)(ty ty':TypeId)(p p':ω)(hw:qC w)(hv:zx v)(ht:t.length<=1048576)(hl:(ct v).length<=500000)(hr:zT w v (φ ty p))(hu:zT w u (φ ty' p')):
  δ prog 243 #[φ ty p,(ze t),φ ty' p'] w (Zq w (Z9 3 (qE v t u))):=by
 have leaf:(∀ w:Wo,(Instr.typeAssert (φ ty p) 65 146 ξ).run prog w= .ok (.tuple #[π ν,θ ζ]) w)->(∀ w:Wo,(Instr.typeAssert (φ ty p) 65 209 ξ).run prog w= .ok (.tuple #[π ν,θ ζ]) w)->qE v t u=ν ->
   δ prog 243 #[φ ty p,(ze t),φ ty' p'] w (Zq w (Z9 3 (qE v t u))):=fun h1 h2 hc=>by
  have f:=zb hc;generalize ze t=F at *;go_in;go_wp2;go_ret2;exact⟨zt _ _,.inl ⟨3,_,by rw[uh f];rfl,rfl,_,rfl,yH _ _⟩⟩
 have d:=hr;unfold zT at d
 cases v with
 | nul=>rw[zi]at d;injection d with a b;subst a;subst b;exact leaf (fun _=>kr) (fun _=>kr) rfl
 | tt=>rw[zi]at d;injection d with a b;subst a;subst b;exact leaf (fun _=>kr) (fun _=>kr) rfl
 | ff=>rw[zi]at d;injection d with a b;subst a;subst b;exact leaf (fun _=>kr) (fun _=>kr) rfl
 | num l=>rw[zi]at d;obtain⟨z,d,_⟩:=d;injection d with a b;subst a;subst b;exact leaf (fun _=>kr) (fun _=>kr) rfl
 | str l=>rw[zi]at d;injection d with a b;subst a;subst b;exact leaf (fun _=>kr) (fun _=>kr) rfl
 | arr l=>exact zf6 l u t w ty ty' p p' ht hl hr hu
 | obj m=>
  rw[zi]at d;obtain⟨i,E,L,x,h,q,o,B,r,J,s⟩:=d;injection h with h1 h2;subst h1;subst h2;have I:=((Jv m).1 hv).1;have K:x.length=m.toL.length:=by have:=congrArg Γ (Vi m x s).1;rw[NE]at this;simpa using this
  have D:=Ed hl;have M:∀ w:Wo,(Instr.typeAssert (φ 209 i) 65 146 ξ).run prog w= .ok (.tuple #[π ν,θ ζ]) w:=fun _=>by kernel_rfl
  have N:∀ w:Wo,(Instr.typeAssert (φ 209 i) 65 209 ξ).run prog w= .ok (.tuple #[i,θ ξ]) w:=fun _=>by kernel_rfl
  have C:=Any.utf8_ValidString Tryz.laysValid (ze t) w (by rw[zL];omega) hw.tab.tabs;rw[Zb]at C;have g:=zb C;have H:Hid (∀ wx,Below w w wx->δ prog 265 #[i,(ze t),φ ty' p'] wx (C9 wx (x++[(t,φ ty' p')]))):=fun wx hx=>
   Ea i E L x t (φ ty' p') wx ((hx.block i q).trans B) (Wd r (hx.block E o)) om ht
  cases hval:Lib.validD t with
  | false=>
   have f:Hid (qE (.obj m) t u=ν):=by show _=_;simp only[qE,hval];rfl
   rw[hval]at g;generalize ze t=F at *;go_in;go_wp2_with fail;go_call g as e w1 ⟨rfl,b1⟩;have y:=zb b1;go_wp2;go_ret2;exact⟨zh y (zt _ _),.inl ⟨3,_,by rw[uh f];rfl,rfl,_,rfl,yH _ _⟩⟩
  | true=>
   have f:Hid (qE (.obj m) t u=η (if (zK (.obj m) t).isSome then qS (.obj m) t u else .obj (JM.ofL (m.toL++[(t,u)])))):=by show _=_;simp only[qE,hval];rfl
   have k:Hid (∀ (w1:Wo) (ob' b n:Nat),Below w w w1->ob'<w1.heap.size->b<w1.heap.size->w1.heap[ob']?=η (χ #[.map (η b)] 212 (0,0))->w1.ownsMap prog 9 RH b n (Zl (x++[(t,φ ty' p')]))->zT w1 (if (zK (.obj m) t).isSome then qS (.obj m) t u else .obj (JM.ofL (m.toL++[(t,u)]))) (φ 209 ob')):=fun w1 ob' b n hb a1 a2 a3 a4=>
    Ec hb s I hu a1 a2 a3 a4
   rw[hval]at g;generalize ze t=F at *;go_in;go_wp2_with fail;go_call g as e w1 ⟨rfl,b1⟩;have A:=zb (uh H w1 b1);have y:=zb b1;go_wp2_with fail;go_call A as e w2 ⟨ob',b',n',rfl,b2,a1,a2,a3,a4⟩;have j:=zb (zh y b2);have G:=zb (uh k w2 ob' b' n' j a1 a2 a3 a4);go_wp2;go_ret2;exact⟨j,.inr ⟨_,_,_,by rw[uh f];rfl,rfl,G⟩⟩
theorem SS.last(h:SS w a g off (ts.map zG))(h0:ts≠[]):SS w a g off (ts.dropLast.map zG)/\a=η ⟨g,off,ν⟩/\w.cell? ⟨g,off+(ts.length - 1),ν⟩=η (σ (ze (QX ts))):=by
 obtain⟨d,t,rfl⟩:∃ d t,ts=d++[t]:=⟨ts.dropLast,ts.getLast h0,(Β h0).symm⟩;have f:(d++[t]).dropLast=d:=List.dropLast_concat;have i:QX (d++[t])=t:=by simp[QX]
 have k:(d++[t]).length - 1=d.length:=sm;rw[f,i,k];have b:((d++[t]).map zG).length=d.length+1:=sm;refine⟨⟨fun h0=>h.ad (by rw[b];omega),fun j hj=>?_⟩,h.ad (by rw[b];omega),?_⟩
 .rw[yl]at hj;have:=h.cell j (by rw[b];omega);rw[this,yx];simp[List.getElem?_append_left,hj]
 .have:=h.cell d.length (by rw[b];omega);rw[this,yx];simp[zG,ze]
theorem Zq.two{o:Nat⊕JV}(h:Zq w o e w'):∃ x y,e=ε (τ #[x,y])/\Zq w o (ε (τ #[x,y])) w':=by
 obtain⟨b,⟨c,ev,a,rfl,d⟩ |⟨u,t,p,a,rfl,d⟩⟩:=h
 .exact⟨_,_,rfl,b,.inl ⟨c,ev,a,rfl,d⟩⟩
 .exact⟨_,_,rfl,b,.inr ⟨u,t,p,a,rfl,d⟩⟩
theorem Zq.undrew{o:Nat⊕JV}(h:Zq w.drew o e w'):Zq w o e w':=⟨(yI _ w).drew.trans h.1,h.2⟩
theorem Zq.from{o:Nat⊕JV}(hb:Below w w w1)(h:Zq w1 o e w'):Zq w o e w':=⟨zh hb h.1,h.2⟩
theorem zf8 (h u:JV) (t:List UInt8) (w:Wo) (ty ty':TypeId) (p p':ω) (tb lb vb g off n cap:Nat) (hw:qC w) (hv:zx h) (ht:t.length<=1048576) (hl:(ct h).length<=500000) (hr:zT w h (φ ty p)) (hu:zT w u (φ ty' p'))
  (k1:w.cell? tb=η (ς (η ⟨g,off,ν⟩) (n+1) cap)) (k2:w.cell? lb=η (ι κ (n:Int))) (k3:w.cell? vb=η (φ ty' p')) (k4:w.cell? ⟨g,off+n,ν⟩=η (ze t)) (_hn:n<=10000000):
  δ prog 242 #[φ ty p,tb,lb,vb] w (Zq w (Z9 3 (qE h t u))):=by
 have a:=zb (zf7 h u t w.drew ty ty' p p' (hw.up (yI _ _).drew) hv ht hl (hr.next (yI _ _).drew) (hu.next (yI _ _).drew));have f:(n:Int)<(n:Int)+1:=om;generalize ze t=i at *;go_in;go_wp2_with fail;go_region_law (go_simp;go_call a as e w1 hP;obtain⟨x,y,rfl,b⟩:=Zq.two hP;have d:=zb b;clear hP b a)
 all_goals
  go_wp2;go_ret2;exact Zq.undrew d
theorem zf9 (h:JV) (t:List UInt8) (w:Wo) (ty:TypeId) (p:ω) (tb lb g off n cap:Nat) (hv:zx h) (ht:t.length<=1048576) (hl:(ct h).length<=500000) (hr:zT w h (φ ty p))
  (k1:w.cell? tb=η (ς (η ⟨g,off,ν⟩) (n+1) cap)) (k2:w.cell? lb=η (ι κ (n:Int))) (k4:w.cell? ⟨g,off+n,ν⟩=η (ze t)) (_hn:n<=10000000):
  δ prog 244 #[φ ty p,tb,lb] w (Zq w (Z9 3 (Vf h t))):=by
 have a:=zb (zf4 h t w ty p hv ht om hr);have f:(n:Int)<(n:Int)+1:=om;generalize ze t=i at *;go_in;go_wp2_with fail;go_call a as e w1 hP;obtain⟨x,y,rfl,d⟩:=Zq.two hP;have b:=zb d;go_wp2;go_ret2;exact b
theorem Dx(v u:JV)(ts:List (List UInt8))(a:Option Addr)(g off cap:Nat)(w:Wo)(ty ty':TypeId)(p p':ω)(hw:qC w)(hv:zx v)(hl:(ct v).length<=500000)(hr:zT w v (φ ty p))(hu:zT w u (φ ty' p'))(hs:SS w a g off (ts.map zG))(hcap:ts.length<=cap)(hcap2:cap<=9223372036854775807)(hn9:ts.length<=10000000)(ht:∀ t∈ts,t.length<=1048576):
  δ prog 216 #[φ ty p,ς a ts.length cap,φ ty' p'] w (Zq w (Z9 3 (qV v ts u))):=by
 by_cases l:ts=[]
 .subst l;have P:Hid (qV v [] u=η u):=by show _=_;unfold qV;rw[yg rfl]
  have R:=zb fun wx (hx:Below w w wx)=>hu.next hx;simp only[yE];go_in;go_wp2;go_ret2;have J:=zh (zt w (χ #[ς a 0 cap] 35)) (zt _ (χ #[φ ty' p'] 65));exact⟨J,.inr ⟨u,_,_,by rw[uh P];rfl,rfl,uh R _ J⟩⟩
 .obtain⟨D,rfl,b⟩:=hs.last l;have K:=List.length_pos_iff.2 l;obtain⟨n,C⟩:∃ n,ts.length=n+1:=⟨ts.length - 1,om⟩;have m:QX ts∈ts:=by
   rw[← Β l];simp[QX]
  have E:=ht _ m;have q:Hid (qV v ts u=qI (fun h=>qE h (QX ts) u) v ts.dropLast):=by show _=_;unfold qV;rw[yf l]
  rw[C,Nat.add_sub_cancel]at b;have B:ts.dropLast.length=n:=by rw[List.length_dropLast,C];rfl
  have H:=zt w (χ #[ς (η ⟨g,off,ν⟩) (n+1) cap] 35);have L:=yH w (χ #[ς (η ⟨g,off,ν⟩) (n+1) cap] 35);have G:(w.alloc (χ #[ς (η ⟨g,off,ν⟩) (n+1) cap] 35)).heap.size=w.heap.size+1:=sm;generalize hw1:w.alloc (χ #[ς (η ⟨g,off,ν⟩) (n+1) cap] 35)=f at H L G;have I:=zt f (χ #[φ ty' p'] 65);have M:=yH f (χ #[φ ty' p'] 65);have O:(f.alloc (χ #[φ ty' p'] 65)).heap.size=f.heap.size+1:=sm;generalize hw2:f.alloc (χ #[φ ty' p'] 65)=o at I M O;have r:=zt o (χ #[ι κ (n:Int)] 3);have F:=yH o (χ #[ι κ (n:Int)] 3);generalize hw3:o.alloc (χ #[ι κ (n:Int)] 3)=N at r F;have k:=zh I r;have d:=zh H k;have S:UO N 242 #[π (η ⟨w,0,ν⟩),π (η ⟨w.heap.size+2,0,ν⟩),π (η ⟨w.heap.size+1,0,ν⟩)] (fun h=>qE h (QX ts) u):=fun wx h tyh ph hx hgh hlh hrh=>by
   have s:=zh d hx;have z:=zh k hx;have A:=zh r hx;refine zf8 h u (QX ts) wx tyh ty' ph p' w (w.heap.size+2) (w.heap.size+1) g off n cap (hw.up s) hgh E hlh hrh (hu.next s) ?_ ?_ ?_ ?_ om
   .exact yG ((z.block _ om).trans L) 0
   .have:=(hx.block o (yC.1 F).1).trans F;rw[O,G]at this;exact yG this 0
   .have:=(A.block f om).trans M;rw[G]at this;exact yG this 0
   .exact (s.cell (p:=⟨g,off+n,ν⟩) (yK _ _ b)).trans b
  have j:=zb (NH 242 zf0 _ _ ts.dropLast v (η ⟨g,off,ν⟩) g off cap N ty p S hv hl (hr.next d) (D.below d) om hcap2 (fun t h=>ht t ((List.dropLast_sublist ts).subset h)));rw[B]at j;have i:=zb d;subst hw3;subst hw2;subst hw1;have V:(n:Int)<=(cap:Int):=om;have U:¬ ((n:Int)+1=0):=om;rw[C];go_in;go_wp2_with fail;go_call j as e w4 hP;obtain⟨x,y,rfl,T⟩:=Zq.two hP;have Q:=zb (Zq.from i T);go_wp2;go_ret2;rw[uh q];exact Q
theorem Eg(v:JV)(ts:List (List UInt8))(a:Option Addr)(g off cap:Nat)(w:Wo)(ty:TypeId)(p:ω)(hv:zx v)(hl:(ct v).length<=500000)(hr:zT w v (φ ty p))(hs:SS w a g off (ts.map zG))(hcap:ts.length<=cap)(hcap2:cap<=9223372036854775807)(hn9:ts.length<=10000000)(ht:∀ t∈ts,t.length<=1048576):
  δ prog 217 #[φ ty p,ς a ts.length cap] w (Zq w (Z9 3 (qZ v ts))):=by
 by_cases j:ts=[]
 .subst j;have G:Hid (qZ v []=ν):=by show _=_;unfold qZ;rw[yg rfl]
  simp only[yE];go_in;go_wp2;go_ret2;exact⟨zh (zt w (χ #[ς a 0 cap] 35)) (zt _ _),.inl ⟨3,_,by rw[uh G];rfl,rfl,_,rfl,by first | exact yH _ _ |(have:=yH (w.alloc (χ #[ς a 0 cap] 35)) (χ #[ι κ 3] 164);simpa using this)⟩⟩
 .obtain⟨u,rfl,b⟩:=hs.last j;have C:=List.length_pos_iff.2 j;obtain⟨n,s⟩:∃ n,ts.length=n+1:=⟨ts.length - 1,om⟩;have k:QX ts∈ts:=by
   rw[← Β j];simp[QX]
  have z:=ht _ k;have m:Hid (qZ v ts=qI (fun h=>Vf h (QX ts)) v ts.dropLast):=by show _=_;unfold qZ;rw[yf j]
  rw[s,Nat.add_sub_cancel]at b;have r:ts.dropLast.length=n:=by rw[List.length_dropLast,s];rfl
  have B:=zt w (χ #[ς (η ⟨g,off,ν⟩) (n+1) cap] 35);have D:=yH w (χ #[ς (η ⟨g,off,ν⟩) (n+1) cap] 35);have F:(w.alloc (χ #[ς (η ⟨g,off,ν⟩) (n+1) cap] 35)).heap.size=w.heap.size+1:=sm;generalize hw1:w.alloc (χ #[ς (η ⟨g,off,ν⟩) (n+1) cap] 35)=l at B D F;have o:=zt l (χ #[ι κ (n:Int)] 3);have A:=yH l (χ #[ι κ (n:Int)] 3);generalize hw3:l.alloc (χ #[ι κ (n:Int)] 3)=E at o A;have d:=zh B o;have J:UO E 244 #[π (η ⟨w,0,ν⟩),π (η ⟨w.heap.size+1,0,ν⟩)] (fun h=>Vf h (QX ts)):=fun wx h tyh ph hx hgh hlh hrh=>by
   have I:=zh d hx;have q:=zh o hx;refine zf9 h (QX ts) wx tyh ph w (w.heap.size+1) g off n cap hgh z hlh hrh ?_ ?_ ?_ om
   .exact yG ((q.block _ om).trans D) 0
   .have:=(hx.block l (yC.1 A).1).trans A;rw[F]at this;exact yG this 0
   .exact (I.cell (p:=⟨g,off+n,ν⟩) (yK _ _ b)).trans b
  have i:=zb (NH 244 zf1 _ _ ts.dropLast v (η ⟨g,off,ν⟩) g off cap E ty p J hv hl (hr.next d) (u.below d) om hcap2 (fun t h=>ht t ((List.dropLast_sublist ts).subset h)));rw[r]at i;have f:=zb d;subst hw3;subst hw1;have M:(n:Int)<=(cap:Int):=om;have L:¬ ((n:Int)+1=0):=om;rw[s];go_in;go_wp2_with fail;go_call i as e w4 hP;obtain⟨x,y,rfl,K⟩:=Zq.two hP;have H:=zb (Zq.from f K);go_wp2;go_ret2;rw[uh m];exact H
structure Xk(w:Wo)(x:ω)(ts:List (List UInt8))(a:Option Addr)(g cap:Nat):Prop where
 form:x=ς a ts.length cap
 row:SS w a g 0 (ts.map zG)
 cap1:ts.length<=cap
 cap2:cap<=9223372036854775807
 len:ts.length<=10000000
 tok:∀ t∈ts,t.length<=1048576
theorem Xk.next(h:Xk w x ts a g cap)(hb:Below w w w'):Xk w' x ts a g cap:=⟨h.form,h.row.below hb,h.cap1,h.cap2,h.len,h.tok⟩
structure Vk(w:Wo)(og:Nat)(o:qj)(hasVal:Bool)(pa fa:Option Addr)(pg pc fg fc:Nat)(vt:TypeId)(vp:ω):Prop where
 path:Xk w (ς pa o.path.length pc) o.path pa pg pc
 src:Xk w (ς fa o.src.length fc) o.src fa fg fc
 c7:w.cell? ⟨og,7,ν⟩=η (ς pa o.path.length pc)
 c8:w.cell? ⟨og,8,ν⟩=η (ς fa o.src.length fc)
 c9:hasVal=ξ->w.cell? ⟨og,9,ν⟩=η (φ vt vp)
 val:hasVal=ξ->zT w o.val (φ vt vp)
theorem Vk.next{hasVal:Bool}(h:Vk w og o hasVal pa fa pg pc fg fc vt vp)(hb:Below w w w'):Vk w' og o hasVal pa fa pg pc fg fc vt vp:=
 ⟨h.path.next hb,h.src.next hb,(hb.cell (p:=⟨og,7,ν⟩) (yK _ _ h.c7)).trans h.c7,(hb.cell (p:=⟨og,8,ν⟩) (yK _ _ h.c8)).trans h.c8,fun e=>(hb.cell (p:=⟨og,9,ν⟩) (yK _ _ (h.c9 e))).trans (h.c9 e),fun e=>(h.val e).next hb⟩
theorem zga(v:JV)(o:qj)(w:Wo)(ty:TypeId)(p:ω)(hw:qC w)(hv:zx v)(hl:(ct v).length<=500000)(hr:zT w v (φ ty p))(ho:Vk w og o ξ pa fa pg pc fg fc vt vp):
  δ prog 180 #[φ ty p,og] w (Zq w (Z9 3 (qV v o.path o.val))):=by
 have b:Below w w w.drew:=(yI _ _).drew;have a:=ho.path;have d:=zb (Dx v o.val o.path pa pg 0 pc w.drew ty vt p vp (hw.up b) hv hl (hr.next b) ((ho.val rfl).next b) (a.row.below b) a.cap1 a.cap2 a.len a.tok);have h:=ho.c7;have i:=ho.c9 rfl;generalize o.path.length=n at *;go_in;go_wp2_with fail;go_region_law (go_simp;go_call d as e w1 hP;obtain⟨x,y,rfl,f⟩:=Zq.two hP;have g:=zb f;clear hP f d)
 all_goals
  go_wp2;go_ret2;exact Zq.undrew g
theorem zgb(v:JV)(o:qj)(w:Wo)(ty:TypeId)(p:ω){b:Bool}(hv:zx v)(hl:(ct v).length<=500000)(hr:zT w v (φ ty p))(ho:Vk w og o b pa fa pg pc fg fc vt vp):
  δ prog 181 #[φ ty p,og] w (Zq w (Z9 3 (qZ v o.path))):=by
 have a:=ho.path;have d:=zb (Eg v o.path pa pg 0 pc w ty p hv hl hr a.row a.cap1 a.cap2 a.len a.tok);have h:=ho.c7;generalize o.path.length=n at *;go_in;go_wp2_with fail;go_call d as e w1 hP;obtain⟨x,y,rfl,g⟩:=Zq.two hP;have f:=zb g;go_wp2;go_ret2;exact f
theorem zgc(u:JV)(x:ω)(w:Wo)(bb og:Nat)(vt:TypeId)(vp:ω)(k1:w.cell? bb=η og)(k2:w.cell? ⟨og,9,ν⟩=η (φ vt vp))(hu:zT w u (φ vt vp)):
  δ prog 219 #[x,bb] w (Zq w (.inr u)):=by
 have a:=zb hu;go_in;go_wp2;go_ret2;exact⟨yI _ _,.inr ⟨u,_,_,rfl,rfl,a⟩⟩
theorem zgd(v:JV)(o:qj)(w:Wo)(ty:TypeId)(p:ω)(hv:zx v)(hl:(ct v).length<=500000)(hr:zT w v (φ ty p))(ho:Vk w og o ξ pa fa pg pc fg fc vt vp):
  δ prog 182 #[φ ty p,og] w (Zq w (Z9 3 (qI (fun _=>η o.val) v o.path))):=by
 have d:=zt w (χ #[og] 92);have l:=yH w (χ #[og] 92);have a:=ho.next d;have b:=a.path;have j:UO (w.alloc (χ #[og] 92)) 219 #[w] (fun _=>η o.val):=fun wx h tyh ph hx hgh hlh hrh=>
  zgc o.val _ wx w og vt vp (yG ((hx.block _ sm).trans l) 0) ((a.next hx).c9 rfl) ((a.next hx).val rfl)
 have f:=zb (NH 219 zf2 _ _ o.path v pa pg 0 pc _ ty p j hv hl (hr.next d) b.row b.cap1 b.cap2 b.tok);have m:=a.c7;have g:=zb d;generalize o.path.length=n at *;go_in;go_wp2_with fail;go_call f as e w1 hP;obtain⟨x,y,rfl,k⟩:=Zq.two hP;have i:=zb (Zq.from g k);go_wp2;go_ret2;exact i
def WQ(v:JV)(o:qj):Nat⊕JV:=match zM v o.src with
 | none=>.inl 3
 | some m=>Z9 3 (qV v o.path m)
theorem zge(h:zM v o.src=ν):WQ v o= .inl 3:=by unfold WQ;rw[h]
theorem zgf(h:zM v o.src=η m):WQ v o=Z9 3 (qV v o.path m):=by unfold WQ;rw[h]
def WR(v:JV)(o:qj):Nat⊕JV:=match zM v o.path with
 | none=>.inl 3
 | some h=>if ct h=ct o.val then .inr v else .inl 5
theorem zgg(h:zM v o.path=ν):WR v o= .inl 3:=by unfold WR;rw[h]
theorem zgh(h:zM v o.path=η m):WR v o=if ct m=ct o.val then .inr v else .inl 5:=by unfold WR;rw[h]
theorem zgi(v:JV)(o:qj)(w:Wo)(ty:TypeId)(p:ω){b:Bool}(hw:qC w)(hv:zx v)(hl:(ct v).length<=500000)(hr:zT w v (φ ty p))(ho:Vk w og o b pa fa pg pc fg fc vt vp)(hsl:o.src.length<=1048577):
  δ prog 184 #[φ ty p,og] w (Zq w (WQ v o)):=by
 have a:=ho.path;have i:=ho.src;have u:=zb (Dk v hv o.src fa fg 0 fc w ty p hr i.row hsl i.tok);have j:Hid (∀ (w1:Wo) (m:JV) t q,Below w w w1->zT w1 m (φ t q)->δ prog 216 #[φ ty p,ς pa o.path.length pc,φ t q] w1 (Zq w1 (Z9 3 (qV v o.path m)))):=fun w1 m t q hx hm=>
  Dx v m o.path pa pg 0 pc w1 ty t p q (hw.up hx) hv hl (hr.next hx) hm (a.row.below hx) a.cap1 a.cap2 a.len a.tok
 have C:=ho.c8;have g:=zb fun w1 (hx:Below w w w1)=>(ho.next hx).c7;generalize hnp:o.path.length=n at *;generalize hns:o.src.length=k at *;go_in;go_wp2_with fail;go_call u as e w1 ⟨b1,⟨c,ev,h1,rfl,h2⟩ |⟨m,t',q,h1,rfl,h2⟩⟩
 .have d:zM v o.src=ν:=by
   cases hq:zM v o.src with
   | none=>rfl
   | some y=>rw[hq]at h1;cases h1
  rw[d]at h1;have A:c=3:=by injection h1 with h1;exact h1.symm
  subst A;have r:Hid (Zq w (WQ v o) (ε (τ #[.nilIface,ev])) w1):=⟨b1,.inl ⟨3,ev,zge d,rfl,h2⟩⟩;obtain⟨fb,rfl,-⟩:=h2;go_wp2;go_ret2;exact r
 .have d:=Jh h1;have h:=zb (zgf d);have f:=zb (uh j w1 m t' q b1 h2);have B:=uh g w1 b1;have l:=zb b1;go_wp2_with fail;go_call f as e w2 hP;obtain⟨x,y,rfl,z⟩:=Zq.two hP;have s:=zb (Zq.from l z);go_wp2;go_ret2;rw[uh h];exact s
def Fz:Prop:=∀ (a b:JV) (w:Wo) (ta tb:TypeId) (pa pb:ω),zx a->zx b->(ct a).length<=1000000->(ct b).length<=1000000->zT w a (φ ta pa)->zT w b (φ tb pb) ->
 δ prog 222 #[φ ta pa,φ tb pb] w (Rb (θ (decide (ct a=ct b))) w)
theorem zgj(hEq:Fz)(v:JV)(o:qj)(w:Wo)(ty:TypeId)(p:ω)(hv:zx v)(_hl:(ct v).length<=500000)(hu:zx o.val)(hlu:(ct o.val).length<=1000000)(hr:zT w v (φ ty p))(ho:Vk w og o ξ pa fa pg pc fg fc vt vp)(hsl:o.path.length<=1048577)(hgl:∀ m,zM v o.path=η m->(ct m).length<=1000000):
  δ prog 185 #[φ ty p,og] w (Zq w (WR v o)):=by
 have k:=ho.path;have s:=zb (Dk v hv o.path pa pg 0 pc w ty p hr k.row hsl k.tok);have r:Hid (∀ (w1:Wo) (m:JV) t q,Below w w w1->zM v o.path=η m->zT w1 m (φ t q)->δ prog 222 #[φ t q,φ vt vp] w1 fun e w'=>e=ε (θ (decide (ct m=ct o.val)))/\Below w1 w1 w'):=fun w1 m t q hx f hm=>
  hEq m o.val w1 t vt q vp (hv.get f) hu (hgl m f) hlu hm ((ho.next hx).val rfl)
 have x:=ho.c7;have h:=zb fun w1 (hx:Below w w w1)=>(ho.next hx).c9 rfl;have HR:=zb fun w1 (hx:Below w w w1)=>hr.next hx;generalize hnp:o.path.length=n at *;go_in;go_wp2_with fail;go_call s as e w1 ⟨b1,⟨c,ev,h1,rfl,h2⟩ |⟨m,t',q,h1,rfl,h2⟩⟩
 .have f:zM v o.path=ν:=by
   cases hq:zM v o.path with
   | none=>rfl
   | some y=>rw[hq]at h1;cases h1
  rw[f]at h1;have u:c=3:=by injection h1 with h1;exact h1.symm
  subst u;have l:Hid (Zq w (WR v o) (ε (τ #[.nilIface,ev])) w1):=⟨b1,.inl ⟨3,ev,zgg f,rfl,h2⟩⟩;obtain⟨fb,rfl,-⟩:=h2;go_wp2;go_ret2;exact l
 .have f:=Jh h1;have b:=zb (uh r w1 m t' q b1 f h2);have d:=zgh f;have z:=uh h w1 b1;have j:=zb b1;by_cases g:ct m=ct o.val
  .rw[yj g]at b;rw[yg g]at d;have i:=zb d;go_wp2_with fail;go_call b as e w2 ⟨rfl,b2⟩;have a:=zb (zh j b2);go_wp2;go_ret2;exact⟨a,.inr ⟨v,_,_,i,rfl,uh HR _ a⟩⟩
  .rw[yk g]at b;rw[yf g]at d;have i:=zb d;go_wp2_with fail;go_call b as e w2 ⟨rfl,b2⟩;have a:=zb (zh j b2);go_wp2;go_ret2;exact⟨zh a (zt _ _),.inl ⟨5,_,i,rfl,_,rfl,yH _ _⟩⟩
theorem NI(s:Bs)(hs:s.size<=1048576):(ZH s).length<=1048577/\∀ x∈ZH s,x.length<=1048576:=by
 have a:=Zo s;have b:=PO s.data.toList;refine⟨by show ((zH s.data.toList).getD []).length<=_;omega,fun x hx=>?_⟩;unfold ZH at hx
 cases hp:zH s.data.toList with
 | none=>rw[hp]at hx;simp at hx
 | some ts=>
  rw[hp]at hx;have:=LY hp x (by simpa using hx);omega
theorem Eh{s:Bs}(h:OT w 0 x (ZH s))(hs:s.size<=1048576):∃ a g cap,x=ς a (ZH s).length cap/\Xk w (ς a (ZH s).length cap) (ZH s) a g cap:=by
 obtain⟨n,j⟩:=NI s hs;obtain⟨a,g,cap,rfl,b,_⟩:=h.shape;refine⟨a,g,cap,rfl,rfl,b,?_,?_,om,j⟩
 all_goals
  rcases h.2 with ⟨d,m⟩ |⟨l,f,i,d,_,_,o,k,_⟩
  .injection d with _ e2 e3;omega
  .injection d with _ _ e3;unfold maxLen at k;omega
theorem UL.toM{m:zk}{q:Wi}(h:UL w S m q)(hS:∀ k,S k->k<w.heap.size)(hz1:m.path.size<=1048576)(hz2:m.src.size<=1048576)(u:JV)(hu:Zz m.kind=ξ->u=q.v):
  ∃ pa fa pg pc fg fc vt vp,Vk w q.g ⟨m.kind,ZH m.path,ZH m.src,u⟩ (Zz m.kind) pa fa pg pc fg fc vt vp:=by
 obtain⟨pa,pg,pc,n,j⟩:=Eh h.path hz1;obtain⟨fa,fg,fc,o,i⟩:=Eh h.src hz2;have a:=h.blk;unfold Xd at a;have b:w.cell? ⟨q.g,7,ν⟩=η q.pv:=yG a 7;have d:w.cell? ⟨q.g,8,ν⟩=η q.fv:=yG a 8;have f:w.cell? ⟨q.g,9,ν⟩=η q.vv:=yG a 9;rw[n]at b;rw[o]at d
 cases hv:Zz m.kind with
 | false=>exact⟨pa,fa,pg,pc,fg,fc,0,.nilIface,j,i,b,d,fun e=>(by cases e),fun e=>(by cases e)⟩
 | true=>
  obtain⟨_,_,t,p,r,l⟩:=h.val hv;rw[r]at f l;refine⟨pa,fa,pg,pc,fg,fc,t,p,j,i,b,d,fun _=>f,fun _=>?_⟩;rw[show u=q.v from hu hv];exact zi.keep (fun _ _=>rfl) hS _ _ l
theorem zgk:VL 180:=fun args w=>by simp[callFunc,go_sem,func180,Result.andThen];rfl
theorem zgl:VL 181:=fun args w=>by simp[callFunc,go_sem,func181,Result.andThen];rfl
theorem zgm:VL 182:=fun args w=>by simp[callFunc,go_sem,func182,Result.andThen];rfl
theorem zgn:VL 183:=fun args w=>by simp[callFunc,go_sem,func183,Result.andThen];rfl
theorem zgo:VL 184:=fun args w=>by simp[callFunc,go_sem,func184,Result.andThen];rfl
theorem zgp:VL 185:=fun args w=>by simp[callFunc,go_sem,func185,Result.andThen];rfl
def NJ:Prop:=∀ (v:JV) (o:qj) (w:Wo) (ty:TypeId) (p:ω) (og:Nat) (b:Bool) (pa fa:Option Addr) (pg pc fg fc:Nat) (vt:TypeId) (vp:ω),o.kind=4->qC w->zx v->(ct v).length<=200000->zT w v (φ ty p)->Vk w og o b pa fa pg pc fg fc vt vp->o.src.length<=1048577->o.path.length<=1048577 ->
 δ prog 183 #[φ ty p,π (η ⟨og,0,ν⟩)] w (Zq w (ZS v o))
theorem zgq(hEq:Fz)(hMv:NJ)(v:JV)(o:qj)(w:Wo)(ty:TypeId)(p:ω)(k1:1<=o.kind)(k6:o.kind<=6)(hw:qC w)(hv:zx v)(hl:(ct v).length<=200000)(hu:zx o.val)(hlu:(ct o.val).length<=1000000)(hr:zT w v (φ ty p))(ho:Vk w og o (Zz o.kind) pa fa pg pc fg fc vt vp)(hsl:o.src.length<=1048577)(hpl:o.path.length<=1048577)(hgl:∀ m,zM v o.path=η m->(ct m).length<=1000000):
  ∃ fid,JU o.kind= .func (Fn.func fid) #[] #[]/\VL fid/\δ prog fid #[φ ty p,og] w (Zq w (ZS v o)):=by
 have a:o.kind=1∨o.kind=2∨o.kind=3∨o.kind=4∨o.kind=5∨o.kind=6:=om;rcases a with e | e | e | e | e | e
 .rw[show Zz o.kind=ξ by rw[e];rfl]at ho;refine⟨_,by rw[e];rfl,zgk,?_⟩;rw[show ZS v o=Z9 3 (qV v o.path o.val) by unfold ZS;rw[yg e]];exact zga v o w ty p hw hv om hr ho
 .refine⟨_,by rw[e];rfl,zgl,?_⟩;rw[show ZS v o=Z9 3 (qZ v o.path) by unfold ZS;rw[yf om,yg e]];exact zgb v o w ty p hv om hr ho
 .rw[show Zz o.kind=ξ by rw[e];rfl]at ho;refine⟨_,by rw[e];rfl,zgm,?_⟩;rw[show ZS v o=Z9 3 (qI (fun _=>η o.val) v o.path) by unfold ZS;rw[yf om,yf om,yg e]];exact zgd v o w ty p hv om hr ho
 .refine⟨_,by rw[e];rfl,zgn,?_⟩;exact hMv v o w ty p og _ pa fa pg pc fg fc vt vp e hw hv hl hr ho hsl hpl
 .refine⟨_,by rw[e];rfl,zgo,?_⟩;rw[show ZS v o=WQ v o by unfold ZS WQ;rw[yf om,yf om,yf om,yf om,yg e];cases zM v o.src<;>rfl];exact zgi v o w ty p hw hv om hr ho hsl
 .rw[show Zz o.kind=ξ by rw[e];rfl]at ho;refine⟨_,by rw[e];rfl,zgp,?_⟩;rw[show ZS v o=WR v o by unfold ZS WR;rw[yf om,yf om,yf om,yf om,yf om];cases zM v o.path<;>rfl];exact zgj hEq v o w ty p hv om hu hlu hr ho hpl hgl
theorem Ei{S':Nat->Prop}(a b:JV)(v:ω)(ha:zx a)(hb:zx b)(h:zi w S a v)(h':zi w S' b v):ct a=ct b:=by
 induction hn:zJ a using Nat.strongRecOn generalizing a b v with
 | _ n ih=>
  have p:Qs a=Qs b:=by
   obtain⟨q,e⟩:=KU h;obtain⟨N,d⟩:=KU h';rw[e]at d;injection d
  cases a with
  | nul=>cases b with
   | nul=>rfl
   | _=>exact absurd p (by simp only[Qs];decide)
  | tt=>cases b with
   | tt=>rfl
   | ff=>rw[zi]at h;rw[zi]at h';rw[h]at h';injection h' with _ h';injection h' with h';cases h'
   | _=>exact absurd p (by simp only[Qs];decide)
  | ff=>cases b with
   | ff=>rfl
   | tt=>rw[zi]at h;rw[zi]at h';rw[h]at h';injection h' with _ h';injection h' with h';cases h'
   | _=>exact absurd p (by simp only[Qs];decide)
  | num l=>cases b with
   | num m=>
    rw[zi]at h h';obtain⟨z,e,hz,_⟩:=h;obtain⟨z',d,ah,_⟩:=h';rw[e]at d;injection d with _ d;injection d with _ d;subst d;rw[ct,ct,← hz,← ah]
   | _=>exact absurd p (by simp only[Qs];decide)
  | str l=>cases b with
   | str m=>
    rw[zi]at h h';rw[h]at h';injection h' with _ h';injection h' with h';have e:=congrArg (fun b:Bs=>b.data.toList) h';simp only[Zb]at e;rw[e]
   | _=>exact absurd p (by simp only[Qs];decide)
  | arr l=>cases b with
   | arr m=>
    rw[zi]at h h';obtain⟨ab,sv,s,e,_,Z,T,hL⟩:=h;obtain⟨ab',aj,i,d,_,f,M,W⟩:=h';rw[e]at d;injection d with _ d;injection d with d;injection d with d;injection d with d;subst d;rw[Z]at f;have ag:sv=aj:=by
     injection f with f;injection f with f;simpa using f
    subst ag;obtain⟨a1,g,cap,e1,hg,I⟩:=Gt T;obtain⟨a2,g',ak,e2,aa,C⟩:=Gt M;rw[e1]at e2;injection e2 with ea el _;obtain⟨hl,Y⟩:=Yo l s hL;obtain⟨hl',P⟩:=Yo m i W;rw[TE ha hb];apply List.ext_getElem
    .rw[yl,yl];omega
    .intro j H D;rw[yl]at H D;rw[Ε,Ε];have j1:j<s.length:=om;have j2:j<i.length:=om;have g1:=(hg om).1;have g2:=(aa om).1;have eg:g=g':=by
      have:=g1.symm.trans (ea.trans g2);injection this with this;injection this
     have U:i[j]=s[j]:=by
      have:=I j j1;rw[eg,C j j2]at this;injection this
     have B:=P j j2 D;rw[U]at B;have hd:zJ l.toL[j]<=dl l.toL:=Fm (yt _);exact ih (zJ l.toL[j]) (by rw[← hn,zJ,UY];omega) _ _ s[j] ((Ve l).1 ha _ (yt _)) ((Ve m).1 hb _ (yt _)) (Y j j1 H) B rfl
   | _=>exact absurd p (by simp only[Qs];decide)
  | obj k=>cases b with
   | obj m=>
    rw[zi]at h h';obtain⟨ob,mb,nn,s,e,_,_,Z,F,_,hM⟩:=h;obtain⟨ob',ai,nn',i,d,_,_,f,A,_,X⟩:=h';rw[e]at d;injection d with _ d;injection d with d;injection d with d;injection d with d;subst d;rw[Z]at f;have af:mb=ai:=by
     injection f with f;injection f with f;simpa using f
    subst af;have V:Zl s=Zl i:=by
     obtain⟨es,cl,q1,_,_,d1⟩:=F;obtain⟨es',cl',O,_,_,d2⟩:=A;rw[q1]at O;injection O with O;injection O with O _;subst O;exact d1.trans d2.symm
    obtain⟨u,R⟩:=Vi k s hM;obtain⟨o,L⟩:=Vi m i X;have gk:=(Jv k).1 ha;have gm:=(Jv m).1 hb;have Q:(s.map (·.1)).Nodup:=by rw[u,Jl];exact gk.1
    have E:(i.map (·.1)).Nodup:=by rw[o,Jl];exact gm.1
    have s1:Maps.size (Zl s)=s.length:=by rw[KT (KS F Q),yl]
    have s2:Maps.size (Zl i)=i.length:=by rw[KT (KS A E),yl]
    have l1:s.length=k.toL.length:=by have:=congrArg Γ u;rw[Jl]at this;simpa using this
    have l2:i.length=m.toL.length:=by have:=congrArg Γ o;rw[Jl]at this;simpa using this
    rw[TF ha hb];refine⟨by rw[V]at s1;omega,fun q hq=>?_⟩;obtain⟨x,hx,hr⟩:=R q.1 q.2 hq;have J:=UE s Q hx;have ad:q.1∈m.toL.map (·.1):=by
     have H:Maps.has (Zl s) (.string q.1)=ξ:=by
      rw[UF,Α,decide_eq_true_eq];exact yP.2 ⟨_,hx,rfl⟩
     rw[V,UF,Α,decide_eq_true_eq,o,Jl]at H;exact H
    obtain⟨N,K,G⟩:=yP.1 ad;obtain⟨y,hy,B⟩:=L N.1 N.2 K;have r:=UE i E hy;have U:y=x:=by
     have H:=KR q.1 .nil s;have D:=KR N.1 .nil i;rw[G,← V,H]at D;rw[G]at r;rw[J,r]at D;injection D with D;exact D.symm
    rw[U]at B;refine⟨N.2,by rw[← G];exact K,?_⟩;have hd:zJ q.2<=dl (k.toL.map (·.2)):=Fm (yP.2 ⟨q,hq,rfl⟩);exact ih (zJ q.2) (by rw[← hn,zJ,Wr];omega) _ _ x (gk.2 q hq).2 (gm.2 N K).2 hr B rfl
   | _=>exact absurd p (by simp only[Qs];decide)
theorem Ej{tp te:TypeId}(hinfo:(prog.info? tp).map (·.comparable)=η ξ)(hu:prog.underlying tp=η (.pointer te))(hz:∀ w:Wo,∃ n,n≠0/\(sizeOf te).run prog w= .ok n w)(a:Nat)(w:Wo):
  (binOp .eql 65 (φ tp a) (φ tp a)).run prog w= .ok (θ ξ) w:=by
 obtain⟨i,j,g⟩:=yA.1 hinfo;obtain⟨n,k,l⟩:=hz w;have b:(sameAddr a a).run prog w= .ok ξ w:=run_sameAddr_same w _;have h:∀ d:Nat,(Op.equalIn (d+1) tp a a).run prog w= .ok ξ w:=fun d=>by
  rw[Op.equalIn];simp[run_underlying hu,l,k,b]
 have f:∀ d:Nat,(Op.equalIn (d+1+1) 65 (φ tp a) (φ tp a)).run prog w= .ok ξ w:=fun d=>by
  rw[Op.equalIn];simp[run_underlying underlying65,typeInfo,j,g,h d]
 simp only[binOp];simp[Op.equal,Op.maxDepth,f 9998]
theorem Dy{a b:JV}{v1 v2:ω}(h1:zT w a v1)(h2:zT w b v2)(ga:zx a)(gb:zx b):
  ∃ r,(binOp .eql 65 v1 v2).run prog w= .ok (θ r) w/\(r=ξ->ct a=ct b)/\(r=ζ->GK a b=ζ):=by
 have x:∀ w:Wo,∃ n,n≠0/\(sizeOf 149).run prog w= .ok n w:=fun w=>⟨1,dc,kr⟩;have p:∀ w:Wo,∃ n,n≠0/\(sizeOf 212).run prog w= .ok n w:=fun w=>⟨1,dc,kr⟩;have leaf:zi w (fun _=>False) a v1->∃ r,(binOp .eql 65 v1 v2).run prog w= .ok (θ r) w/\(r=ξ->ct a=ct b)/\(r=ζ->GK a b=ζ):=fun h=>
  ⟨GK a b,zdP (fun k hk=>hk.elim) h h2,ziY,id⟩
 have f:=h1;have g:=h2;unfold zT at h1 h2;by_cases q:Qs a=Qs b
 .cases a with
  | nul=>exact leaf (by rw[zi]at h1 ⊢;exact h1)
  | tt=>exact leaf (by rw[zi]at h1 ⊢;exact h1)
  | ff=>exact leaf (by rw[zi]at h1 ⊢;exact h1)
  | num l=>exact leaf (by rw[zi]at h1 ⊢;exact h1)
  | str l=>exact leaf (by rw[zi]at h1 ⊢;exact h1)
  | arr l=>cases b with
   | arr m=>
    rw[zi]at h1 h2;obtain⟨i,F,A,j,_,s,_⟩:=h1;obtain⟨d,z,v,o,_,u,_⟩:=h2;by_cases e:i=d
    .subst e;refine⟨ξ,by rw[j,o];exact Ej kr underlying146 x i w,fun _=>?_,fun h=>by cases h⟩;exact Ei _ _ v1 ga gb f (by rw[j,← o];exact g)
    .subst j;subst o;exact⟨ζ,O9 kr underlying146 x i d e w s u,fun h=>(by cases h),fun _=>rfl⟩
   | _=>exact absurd q (by simp only[Qs];decide)
  | obj l=>cases b with
   | obj m=>
    rw[zi]at h1 h2;obtain⟨i,b,C,A,j,_,_,s,_⟩:=h1;obtain⟨d,B,y,v,o,_,_,u,_⟩:=h2;by_cases e:i=d
    .subst e;refine⟨ξ,by rw[j,o];exact Ej kr underlying209 p i w,fun _=>?_,fun h=>by cases h⟩;exact Ei _ _ v1 ga gb f (by rw[j,← o];exact g)
    .subst j;subst o;exact⟨ζ,O9 kr underlying209 p i d e w s u,fun h=>(by cases h),fun _=>rfl⟩
   | _=>exact absurd q (by simp only[Qs];decide)
 .obtain⟨D,rfl⟩:=KU h1;obtain⟨E,rfl⟩:=KU h2;exact⟨ζ,run_eql_iface_types _ _ _ _ underlying65 q w,fun h=>(by cases h),fun _=>Ba q⟩
def WS(a b:JV):Prop:=∀ (w:Wo) (ta tb:TypeId) (pa pb:ω),zT w a (φ ta pa)->zT w b (φ tb pb) ->
 δ prog 222 #[φ ta pa,φ tb pb] w (Rb (θ (decide (ct a=ct b))) w)
theorem Ek{sv:ω}(hrow:WL w (fun k=>k<w.heap.size) sv xs)(hL:Zv w (fun k=>k<w.heap.size) l xs):
  ∃ a g cap,sv=ς a l.toL.length cap/\(0<l.toL.length->a=η ⟨g,0,ν⟩/\g<w.heap.size)/\∀ j (hj:j<l.toL.length),∃ t p,w.cell? ⟨g,j,ν⟩=η (φ t p)/\zT w l.toL[j] (φ t p):=by
 obtain⟨a,g,cap,e,m,i⟩:=Gt hrow;obtain⟨h,b⟩:=Yo l xs hL;refine⟨a,g,cap,by rw[← h];exact e,by rw[← h];exact m,fun j hj=>?_⟩;have d:=b j om hj;obtain⟨t,p,f⟩:=Y1 d;refine⟨t,p,by rw[i j om,f],?_⟩;rw[f]at d;exact d
theorem zgr (l m:JL) (hE:∀ u∈l.toL,∀ u'∈m.toL,WS u u') (w:Wo) (a1 a2:Option Addr) (g1 g2 c1 c2:Nat) (hl:l.toL.length<=1000000)
  (h1:0<l.toL.length->a1=η g1/\g1<w.heap.size) (h2:0<m.toL.length->a2=η ⟨g2,0,ν⟩/\g2<w.heap.size)
  (k1:∀ j (hj:j<l.toL.length),∃ t p,w.cell? ⟨g1,j,ν⟩=η (φ t p)/\zT w l.toL[j] (φ t p)) (k2:∀ j (hj:j<m.toL.length),∃ t p,w.cell? ⟨g2,j,ν⟩=η (φ t p)/\zT w m.toL[j] (φ t p)):
  δ prog 247 #[ς a1 l.toL.length c1,ς a2 m.toL.length c2,.func (Fn.func 222) #[] #[]] w fun e w'=>e=ε (θ (decide (l.toL.map ct=m.toL.map ct)))/\Below w w w':=by
 by_cases q:l.toL.length=m.toL.length
 .have G:Hid (∀ (wr:Wo) (j:Nat) (hj:j < l.toL.length),Below w w wr->∃ t p g f,wr.cell? ⟨g1,j,ν⟩=η (φ t p)/\wr.cell? ⟨g2,j,ν⟩=η (φ g f) /\
    δ prog 222 #[φ t p,φ g f] wr fun e w'=>e=ε (θ (decide (ct (l.toL.getD j .nul)=ct (m.toL.getD j .nul))))/\Below wr wr w'):=by
   intro wr j hj b;have a:j<m.toL.length:=om;obtain⟨t,p,e,J⟩:=k1 j hj;obtain⟨g,f,H,C⟩:=k2 j a;have z:l.toL.getD j .nul=l.toL[j]:=by simp[Ν,hj]
   have A:m.toL.getD j .nul=m.toL[j]:=by simp[Ν,a]
   rw[z,A];exact⟨t,p,g,f,(b.cell (p:=⟨g1,j,ν⟩) (h1 om).2).trans e,(b.cell (p:=⟨g2,j,ν⟩) (h2 om).2).trans H,hE _ (yt hj) _ (yt a) wr t g p f (J.next b) (C.next b)⟩
  have s:Hid (0<l.toL.length->a1=η ⟨g1,0,ν⟩/\a2=η ⟨g2,0,ν⟩):=fun h=>⟨(h1 h).1,(h2 om).1⟩;have n:Hid ((∀ j (hj:j<l.toL.length),ct (l.toL.getD j .nul)=ct (m.toL.getD j .nul))->decide (l.toL.map ct=m.toL.map ct)=ξ):=fun h=>yj (List.ext_getElem (by simpa using q) fun j hj _=>by
   rename_i a;rw[yl]at hj a;have:=h j hj;rw[Ε,Ε];simpa [Ν,hj,a]using this)
  have x:Hid (∀ j (hj:j<l.toL.length),¬ ct (l.toL.getD j .nul)=ct (m.toL.getD j .nul)->decide (l.toL.map ct=m.toL.map ct)=ζ):=fun j hj h=>yk fun e=>h (by
   have:=congrArg (fun L=>L[j]?) e;have a:j<m.toL.length:=om;simp only[List.getElem?_map]at this;rw[yy hj,yy a]at this;simpa [Ν,hj,a]using this)
  clear hE h1 h2 k1 k2;generalize B:(decide (l.toL.map ct=m.toL.map ct))=Q at *;rw[← q];clear q;generalize hN:l.toL.length=N at *;go_in;go_wp2_with fail;go_loopw [17] (fun iv wr=>∃ k:Nat,k<=N/\iv=ι κ (k:Int)/\Below w w wr/\Hid (∀ j (hj:j<N),j<k->ct (l.toL.getD j .nul)=ct (m.toL.getD j .nul))) (fun iv _=>N - (intOf iv).toNat)
  case atStart=>exact⟨0,yu _,rfl,yI _ _,fun j _ hj=>om⟩
  case round=>
   obtain⟨k,K,rfl,b,D⟩:=hrel;by_cases o:k<N
   .obtain⟨rfl,rfl⟩:=uh s om;obtain⟨t,p,g,f,P,R,d⟩:=uh G wr k o b;have E:=zb d;have v:=zb b;go_wp2_with fail;go_call E as e w1 ⟨rfl,b1⟩;have i:=zb (zh v b1);by_cases r:ct (l.toL.getD k .nul)=ct (m.toL.getD k .nul)
    .rw[yj r];have F:Hid (∀ j (hj:j<N),j<k+1->ct (l.toL.getD j .nul)=ct (m.toL.getD j .nul)):=fun j hj h=>by
      by_cases z:j=k
      .subst z;exact r
      .exact uh D j hj om
     go_wp2;go_roundw
     case rel=>exact⟨k+1,om,by go_num,i,F⟩
     case measure=>simp[intOf];omega
    .rw[yk r];have y:=zb (uh x k o r);go_wp2;go_ret;exact⟨by rw[uh y];rfl,i⟩
   .have y:=zb (uh n fun j hj=>uh D j hj om);have v:=zb b;go_wp2;go_ret;exact⟨by rw[uh y];rfl,v⟩
 .have B:decide (l.toL.map ct=m.toL.map ct)=ζ:=yk fun e=>q (by simpa using congrArg Γ e);rw[B];have I:¬ ((l.toL.length:Int)=(m.toL.length:Int)):=om;clear B hE k1 k2 h1 h2 q;generalize l.toL.length=M at *;generalize m.toL.length=O at *;go_in;go_wp2;go_ret;exact⟨rfl,yI _ _⟩
open Go.Sort
theorem Dz{m:JM}{q:List UInt8×JV}(h:q∈m.toL):(quoted q.1).length+1+(ct q.2).length<=(ct (.obj m)).length:=by
 have b:=Y6 m;have a:=Ws qr h;simp only[qr]at a;omega
theorem zgs (k m:JM) (gk:zx (.obj k)) (gm:zx (.obj m)) (lk:(ct (.obj k)).length<=1000000) (hE:∀ q∈k.toL,∀ q'∈m.toL,WS q.2 q'.2) (w:Wo) (b1 b2 n1 n2:Nat) (xs ys:List (List UInt8×ω))
  (h1:w.ownsMap prog 9 RH b1 n1 (Zl xs)) (h2:w.ownsMap prog 9 RH b2 n2 (Zl ys)) (r1:ZE w (fun k=>k<w.heap.size) k xs) (r2:ZE w (fun k=>k<w.heap.size) m ys):
  δ prog 248 #[.map (η b1),.map (η b2),.func (Fn.func 222) #[] #[]] w fun e w'=>e=ε (θ (decide (ct (.obj k)=ct (.obj m))))/\Below w w w':=by
 obtain⟨i,al⟩:=Vi k xs r1;obtain⟨d,N⟩:=Vi m ys r2;have g1:=(Jv k).1 gk;have g2:=(Jv m).1 gm;have ah:(xs.map (·.1)).Nodup:=by rw[i,Jl];exact g1.1
 have H:(ys.map (·.1)).Nodup:=by rw[d,Jl];exact g2.1
 have l1:xs.length=k.toL.length:=by have:=congrArg Γ i;rw[Jl]at this;simpa using this
 have l2:ys.length=m.toL.length:=by have:=congrArg Γ d;rw[Jl]at this;simpa using this
 have s1:Maps.size (Zl xs)=k.toL.length:=by rw[KT (KS h1 ah),yl,l1]
 have s2:Maps.size (Zl ys)=m.toL.length:=by rw[KT (KS h2 H),yl,l2]
 have C:=TF gk gm;have hln1:∀ ty,(Builtin.len_ #[210] ty #[.map (η b1)]).run prog w= .ok (ι κ (k.toL.length:Int)) w:=fun ty=>by
  have:=h1.len underlying210 ty;rw[s1]at this;exact this
 have ag:∀ ty,(Builtin.len_ #[210] ty #[.map (η b2)]).run prog w= .ok (ι κ (m.toL.length:Int)) w:=fun ty=>by
  have:=h2.len underlying210 ty;rw[s2]at this;exact this
 have hb1:=h1.lt;have hb2:=h2.lt;by_cases hn:k.toL.length=m.toL.length
 .have V:Hid (∀ (wr:Wo) (a:Lit->Bool) (x:List UInt8) (c:ω) (l:Lit) (y1:DataW ω) (y2:List MemPlace),Below w w wr->keyOf prog 9 (ze x)=η l->a l=ξ->(a l=ξ->Maps.has (Zl xs) l=ξ)->RH c=η (y1,y2)->(∀ zd,(Zl xs).atKey l zd=y1) ->
    ∃ t p u,l= .string x/\c=φ t p/\(x,u)∈k.toL/\((∃ v0,(Instr.lookup 210 (.map (η b2)) (ze x) ξ).run prog wr= .ok (.tuple #[v0,θ ζ]) wr/\decide (ct (.obj k)=ct (.obj m))=ζ) ∨
     ∃ S R A,(Instr.lookup 210 (.map (η b2)) (ze x) ξ).run prog wr= .ok (.tuple #[φ S R,θ ξ]) wr/\(x,A)∈m.toL/\(¬ ct u=ct A->decide (ct (.obj k)=ct (.obj m))=ζ) /\
      δ prog 222 #[φ t p,φ S R] wr fun e w'=>e=ε (θ (decide (ct u=ct A)))/\Below wr wr w')):=by
   intro wr a x c l y1 y2 O z hl hh J K;obtain⟨x',hx',hkl,_⟩:=Maps.keyOf_str underlying9 z;have ex:x'=x:=by
    have:Value.string (ze x)=encStr x':=hx';simp only[encStr,Value.string.injEq]at this;have h2:=congrArg (fun b:Bs=>b.data.toList) this;simpa [ze]using h2.symm
   subst ex;subst hkl;have B:=hh hl;rw[UF,i]at B;simp only[Α,decide_eq_true_eq]at B;rw[Jl]at B;obtain⟨q,j,aj⟩:=yP.1 B;obtain⟨D,v⟩:=q;simp only at aj;subst aj;obtain⟨x0,hx0,P⟩:=al D v j;have M:=UE xs ah hx0;have e1:=(K (.held .nilIface)).symm.trans (KR D (.held .nilIface) xs);rw[M]at e1;injection J with J;injection J with J _;subst J;injection e1 with e1;subst e1;obtain⟨t,p,rfl⟩:=Y1 P;have hkn:D.length<=10000000:=by have:=Dz j;have:=UX D;simp only at *;omega
   obtain⟨v0,g,hv0⟩:=Sr (Wd h2 (O.block b2 hb2)) D hkn;have f:=Sq D ys;refine⟨t,p,v,rfl,rfl,j,?_⟩
   cases n:(J8 ys D).isSome with
   | false=>
    rw[n]at g;refine .inl ⟨v0,g,yk fun e=>?_⟩;obtain⟨u,hu,_⟩:=(C.1 e).2 _ j;rw[n,d,Jl]at f;have:D∈m.toL.map (·.1):=yP.2 ⟨_,hu,rfl⟩;rw[Α,yj this]at f
    cases f
   | true=>
    rw[n]at g f;have af:D∈m.toL.map (·.1):=by
     rw[d,Jl]at f;simpa using f.symm
    obtain⟨q',o,ad⟩:=yP.1 af;obtain⟨k2,A⟩:=q';simp only at ad;subst ad;obtain⟨y0,hy0,ak⟩:=N k2 A o;have hl':=UE ys H hy0;have ey:v0=y0:=by have:=(hv0 n).symm.trans hl';injection this
    subst ey;obtain⟨S,R,rfl⟩:=Y1 ak;refine .inr ⟨S,R,A,g,o,fun ai=>yk fun e=>?_,hE _ j _ o wr t S p R (zT.next P O) (zT.next ak O)⟩;obtain⟨u2,hu2,e2⟩:=(C.1 e).2 _ j;have:(k2,A)=(k2,u2):=RZ g2.1 o hu2 rfl;injection this with _ this;exact ai (by rw[this];exact e2)
  have HZ:Hid (∀ q∈k.toL,Maps.has (Zl xs) (.string q.1)=ζ->∃ u,(q.1,u)∈m.toL/\ct q.2=ct u):=fun q j h=>by
   rw[UF,i,Jl,Α,decide_eq_false_iff_not]at h;exact absurd (yP.2 ⟨q,j,rfl⟩) h
  have Z:=zb fun (h:(∀ q∈k.toL,∃ u,(q.1,u)∈m.toL/\ct q.2=ct u))=>yj (C.2 ⟨hn,h⟩);have HUQ:Hid (∀ q∈k.toL,∀ q'∈k.toL,q.1=q'.1->q=q'):=fun q j q' o e=>RZ g1.1 j o e;have HOW:=zb h1;rw[← hn]at ag;generalize decide (ct (.obj k)=ct (.obj m))=Q at *;generalize k.toL.length=NN at *;go_in;go_wp2_with (first |(at_range;refine wpList_range_own _ rfl _ 210 rfl 9 65 (Maps.string_keyed underlying9) underlying210 RH b1 n1 (Zl xs) rfl HOW ?_;intro w0 am s hs0) | go_in);have B0:Hid (Below w w w0):=⟨s.os,s.tape,s.output,s.size,fun k hk=>s.block k hk sm⟩;have E:=zb am;obtain⟨r,P⟩:∃ r,w.heap.size=r:=⟨_,rfl⟩;have HRR:=zb P;rw[P]at E;simp only[P];go_frame;go_loopw [18] (fun _ wr=>∃ a cnt,wr.ranges prog 9 RH b1 r n1 (Zl xs) a cnt/\(∀ l,a l=ξ->Maps.has (Zl xs) l=ξ)/\Below w w wr/\Hid (∀ q∈k.toL,a (.string q.1)=ζ->∃ u,(q.1,u)∈m.toL/\ct q.2=ct u)) (fun _ wr=>wr.rangeLeft b1 r)
  case atStart=>exact⟨_,_,E,fun _ h=>h,B0,HZ⟩
  case round=>
   obtain⟨a,cnt,hrg,ao,bw,hd⟩:=hrel;have X:=zb hrg;have G:=zb ao;have I:=zb bw;go_wp2_with (first |(at_next;(refine wpList_next_ranges (α:=List UInt8) (β:=ω) _ rfl _ rfl 9 (Maps.string_keyed underlying9) RH (fun x=>σ (ze x)) (fun v=>v) (fun key l hk=>by obtain⟨x,hx,_⟩:=Maps.keyOf_str underlying9 hk;exact⟨x,hx⟩) (fun v y _=>⟨v,rfl⟩) b1 r n1 (Zl xs) a cnt rfl X ?_ ?_)) | go_in)
   .intro _ hl0;have W:=zb (uh Z fun q j=>uh hd q j (hl0 _));go_wp2;go_ret;exact⟨by rw[uh W];rfl,I⟩
   .intro x c l y1 y2 w2 ab z n J K an hlt hg2 hs2 hen;have aa:=I.trans (KY hg2 (by have:=uh HRR;omega) I.size);obtain⟨t,p,u,rfl,rfl,hu,hcs⟩:=uh V w2 a x c l y1 y2 aa z n (uh G l) J K;have Y:=zb an;have T:=zb aa;have HLT:=zb hlt;rcases hcs with ⟨v0,g,j⟩ |⟨S,R,A,g,hu',hno,L⟩
    .have W:=zb j;go_wp2;go_ret;exact⟨by rw[uh W];rfl,T⟩
    .have HC:=zb L;have HNO:=zb hno;have HU:=zb hu;have HU':=zb hu';go_wp2_with fail;go_call HC as e w3 ⟨rfl,b3⟩;have F:=zb (Y.kept (⟨b3.os,b3.tape,b3.output,b3.size,fun k hk _=>b3.block k hk⟩:w2.grownBy w3 ν) sm sm);have U:=zb (zh T b3);by_cases he:ct u=ct A
     .rw[yj he];have HD:Hid (∀ q∈k.toL,Jw a x (.string q.1)=ζ->∃ u,(q.1,u)∈m.toL/\ct q.2=ct u):=fun q j h=>by
       by_cases ex:q.1=x
       .have:=uh HUQ q j (x,u) HU ex;subst this;exact⟨A,HU',he⟩
       .rw[Fl ex]at h;exact uh hd q j h
      go_wp2;go_roundw
      case rel=>exact⟨Jw a x,ab,F,fun l h=>uh G l (by unfold Jw at h;rw[Bool.and_eq_true]at h;exact h.1),U,HD⟩
      case measure=>rw[F.left_eq,X.left_eq];exact HLT
     .rw[yk he];have W:=zb (uh HNO he);go_wp2;go_ret;exact⟨by rw[uh W];rfl,U⟩
 .have j:=yk fun e=>hn (C.1 e).1;rw[j];have ai:¬ ((k.toL.length:Int)=(m.toL.length:Int)):=om;generalize k.toL.length=N1 at *;generalize m.toL.length=N2 at *;go_in;go_wp2;go_ret;exact⟨rfl,yI _ _⟩
theorem El(a:Addr)(w:Wo):(Instr.typeAssert (φ 146 (π (η a))) 65 146 ξ).run prog w= .ok (.tuple #[π (η a),θ ξ]) w:=by kernel_rfl
theorem Em(a:Addr)(w:Wo):(Instr.typeAssert (φ 209 (π (η a))) 65 209 ξ).run prog w= .ok (.tuple #[π (η a),θ ξ]) w:=by kernel_rfl
theorem zgt{a:JV}(h:∀ l,a≠.arr l)(p:ω)(w:Wo):(Instr.typeAssert (φ (Qs a) p) 65 146 ξ).run prog w= .ok (.tuple #[π ν,θ ζ]) w:=by
 cases a with
 | arr l=>exact absurd rfl (h l)
 | nul=>kernel_rfl
 | tt=>kernel_rfl
 | ff=>kernel_rfl
 | num _=>kernel_rfl
 | str _=>kernel_rfl
 | obj _=>kernel_rfl
theorem zgu(l m:JL)(gl:zx (.arr l))(gm:zx (.arr m))(ll:(ct (.arr l)).length<=1000000)(hE:∀ u∈l.toL,∀ u'∈m.toL,WS u u'):WS (.arr l) (.arr m):=by
 intro w Z tb pa T s v;obtain⟨M,F,f,-⟩:=Dy s v gl gm;unfold zT at s v;rw[zi]at s v;obtain⟨I,W,xs,A,N,i,g,E⟩:=s;obtain⟨z,O,P,B,G,k,d,h⟩:=v;injection A with A e1';injection B with B e2';subst A;subst e1';subst B;subst e2';obtain⟨C,J,c1,rfl,n,q⟩:=Ek g E;obtain⟨D,K,c2,rfl,o,r⟩:=Ek d h;have L:=NG ll;have U:=Zw i;have V:=Zw k;have y:Hid (δ prog 247 #[ς C l.toL.length c1,ς D m.toL.length c2,.func (Fn.func 222) #[] #[]] w.drew fun e w'=>e=ε (θ (decide (ct (.arr l)=ct (.arr m))))/\Below w.drew.heap.size w.drew w'):=by
  have:=zgr l m hE w.drew C D J K c1 c2 L n o (fun j hj=>by obtain⟨t,p,a,b⟩:=q j hj;exact⟨t,p,a,b.next (yI _ _).drew⟩) (fun j hj=>by obtain⟨t,p,a,b⟩:=r j hj;exact⟨t,p,a,b.next (yI _ _).drew⟩);rw[show decide (ct (.arr l)=ct (.arr m))=decide (l.toL.map ct=m.toL.map ct) by rw[Bool.eq_iff_iff,decide_eq_true_eq,decide_eq_true_eq];exact TE gl gm];exact this
 have X:=El I;have Y:=El z;clear hE gl gm ll i k g d E h q r n o;generalize l.toL.length=R at *;generalize m.toL.length=S at *
 cases M with
 | true=>
  have H:=zb (yj (f rfl));clear f y;go_in;go_wp2;go_ret;exact⟨by rw[uh H];rfl,yI _ _⟩
 | false=>
  clear f;generalize decide (ct (.arr l)=ct (.arr m))=Q at *;go_in;go_wp2_with fail;go_region_law (go_simp;go_call y as e w1 ⟨rfl,b1⟩;have x:=zb ((yI _ w).drew.trans b1);clear b1 y)
  all_goals
   go_wp2;go_ret;exact⟨rfl,x⟩
theorem zgv(k m:JM)(gk:zx (.obj k))(gm:zx (.obj m))(lk:(ct (.obj k)).length<=1000000)(hE:∀ q∈k.toL,∀ q'∈m.toL,WS q.2 q'.2):WS (.obj k) (.obj m):=by
 intro w P R pa J n o;obtain⟨E,C,d,-⟩:=Dy n o gk gm;unfold zT at n o;rw[zi]at n o;obtain⟨z,g,x,H,u,_,F,j,f,_,B⟩:=n;obtain⟨s,A,y,I,v,_,G,l,b,_,i⟩:=o;injection u with u e1';injection v with v e2';subst u;subst e1';subst v;subst e2';have K:=Zw j;have L:=Zw l;have r:Hid (δ prog 248 #[.map (η g),.map (η A),.func (Fn.func 222) #[] #[]] w.drew fun e w'=>e=ε (θ (decide (ct (.obj k)=ct (.obj m))))/\Below w.drew.heap.size w.drew w'):=
  zgs k m gk gm lk hE w.drew g A x y H I f.drew b.drew (ZE.keep (w:=w) (w':=w.drew) (fun _ _=>rfl) (fun _ h=>h) _ _ B) (ZE.keep (w:=w) (w':=w.drew) (fun _ _=>rfl) (fun _ h=>h) _ _ i)
 have M:=Em z;have N:=Em s;have O:∀ w:Wo,(Instr.typeAssert (φ 209 z) 65 146 ξ).run prog w= .ok (.tuple #[π ν,θ ζ]) w:=fun w=>zgt (a:=.obj k) (fun _ e=>by cases e) _ w;clear hE gk gm lk j l f b B i
 cases E with
 | true=>
  have D:=zb (yj (d rfl));clear d r;go_in;go_wp2;go_ret;exact⟨by rw[uh D];rfl,yI _ _⟩
 | false=>
  clear d;generalize decide (ct (.obj k)=ct (.obj m))=Q at *;go_in;go_wp2_with fail;go_region_law (go_simp;go_call r as e w1 ⟨rfl,g⟩;have p:=zb ((yI _ w).drew.trans g);clear g r)
  all_goals
   go_wp2;go_ret;exact⟨rfl,p⟩
theorem ta_noobj {a : JV} (h : ∀ l, a ≠ .obj l) (p : Value) (w : World) : (Instr.typeAssert (.iface (Qs a) p) 65 209 true).run Tryz.prog w = .ok (.tuple #[.pointer none, .bool false]) w := by
  cases a with
  | obj l => exact absurd rfl (h l)
  | nul => kernel_rfl
  | tt => kernel_rfl
  | ff => kernel_rfl
  | num _ => kernel_rfl
  | str _ => kernel_rfl
  | arr _ => kernel_rfl
theorem equal_else0 {a b : JV} {w : World} {ta tb : TypeId} {pa pb : Value} (ha : zT w a (.iface ta pa)) (hb : zT w b (.iface tb pb)) (rr : Bool) (hrun : (binOp .eql 65 (.iface ta pa) (.iface tb pb)).run Tryz.prog w = .ok (.bool rr) w) (hQ : decide (ct a = ct b) = rr) (h1 : ∀ l m, a = .arr l → b ≠ .arr m) (h2 : ∀ l m, a = .obj l → b ≠ .obj m) :
    Calls Tryz.prog 222 #[.iface ta pa, .iface tb pb] w fun e w' => e = .returned (.bool (decide (ct a = ct b))) ∧ Below w.heap.size w w' := by
  have ea : ta = Qs a := by obtain ⟨q, e⟩ := KU ha; injection e
  have eb : tb = Qs b := by obtain ⟨q, e⟩ := KU hb; injection e
  have HQ := zb hQ
  cases rr with
  | true =>
    clear ha hb ea eb h1 h2
    go_enter Tryz.func222, Tryz.ntmps222
    go_wp2
    go_ret
    exact ⟨by rw [uh HQ]; rfl, Below.refl _ _⟩
  | false =>
    by_cases xa : ∃ l, a = .arr l
    · obtain ⟨l, rfl⟩ := xa
      have t2 := fun (w : World) => zgt (a := b) (fun m e => h1 l m rfl e) pb w
      unfold zT at ha
      rw [zi] at ha
      obtain ⟨ab, sv, xs, e1, -⟩ := ha
      injection e1 with _ e1
      subst e1
      have t1 := El ab
      rw [← eb] at t2
      simp only [Qs] at ea
      subst ea
      clear hb h1 h2 eb
      go_enter Tryz.func222, Tryz.ntmps222
      go_wp2_with fail
      go_quiet (fail)
      go_wp2
      go_ret
      exact ⟨by rw [uh HQ]; rfl, GQ w _⟩
    · have t1 := fun (w : World) => zgt (a := a) (fun l e => xa ⟨l, e⟩) pa w
      by_cases xo : ∃ l, a = .obj l
      · obtain ⟨l, rfl⟩ := xo
        have t3 := fun (w : World) => ta_noobj (a := b) (fun m e => h2 l m rfl e) pb w
        unfold zT at ha
        rw [zi] at ha
        obtain ⟨ab, mb, nn, xs, e1, -⟩ := ha
        injection e1 with _ e1
        subst e1
        have t2 := Em ab
        rw [← eb] at t3
        rw [← ea] at t1
        simp only [Qs] at ea
        subst ea
        clear hb h1 h2 xa eb
        go_enter Tryz.func222, Tryz.ntmps222
        go_wp2_with fail
        go_quiet (fail)
        go_wp2
        go_ret
        exact ⟨by rw [uh HQ]; rfl, GQ w _⟩
      · have t2 := fun (w : World) => ta_noobj (a := a) (fun l e => xo ⟨l, e⟩) pa w
        rw [← ea] at t1 t2
        clear ha hb h1 h2 xa xo ea eb
        go_enter Tryz.func222, Tryz.ntmps222
        go_wp2
        go_ret
        exact ⟨by rw [uh HQ]; rfl, Below.refl _ _⟩
theorem zgw(a b:JV)(ga:zx a)(gb:zx b)(h1:∀ l m,a= .arr l->b≠.arr m)(h2:∀ l m,a= .obj l->b≠.obj m):WS a b:=by
 intro w q r pa p k n;obtain⟨o,d,f,j⟩:=Dy k n ga gb;refine equal_else0 k n o d ?_ h1 h2
 cases o with
 | true=>exact yj (f rfl)
 | false=>
  refine yk fun e=>?_;rcases ziZ ga.ok gb.ok e with h |⟨l,m,g,i⟩ |⟨l,m,g,i⟩
  .rw[j rfl]at h;cases h
  .exact h1 l m g i
  .exact h2 l m g i
theorem zgx(a b:JV)(ga:zx a)(gb:zx b)(la:(ct a).length<=1000000)(lb:(ct b).length<=1000000):WS a b:=by
 induction hn:zJ a using Nat.strongRecOn generalizing a b with
 | _ n ih=>
  by_cases d:∃ l m,a= .arr l/\b= .arr m
  .obtain⟨l,m,rfl,rfl⟩:=d;refine zgu l m ga gb la fun u hu u' hu'=>ih (zJ u) ?_ u u' ((Ve l).1 ga u hu) ((Ve m).1 gb u' hu') ?_ ?_ rfl
   .have:=Fm hu;rw[← hn,zJ,UY];omega
   .have:=TG hu;omega
   .have:=TG hu';omega
  .by_cases f:∃ l m,a= .obj l/\b= .obj m
   .obtain⟨l,m,rfl,rfl⟩:=f;refine zgv l m ga gb la fun q hq q' hq'=>ih (zJ q.2) ?_ q.2 q'.2 (((Jv l).1 ga).2 q hq).2 (((Jv m).1 gb).2 q' hq').2 ?_ ?_ rfl
    .have:=Fm (yP.2 ⟨q,hq,rfl⟩:q.2∈l.toL.map (·.2));rw[← hn,zJ,Wr];omega
    .have:=Dz hq;omega
    .have:=Dz hq';omega
   .exact zgw a b ga gb (fun l m e1 e2=>d ⟨l,m,e1,e2⟩) (fun l m e1 e2=>f ⟨l,m,e1,e2⟩)
theorem En{a b:List (List UInt8)}:a.map zG=b.map zG↔a=b:=by
 constructor
 .intro h;have:=congrArg (List.map fun s:Bs=>s.data.toList) h;rw[List.map_map,List.map_map]at this;have e:((fun s:Bs=>s.data.toList)∘zG)=id:=by funext t;simp[zG]
  rwa [e,List.map_id,List.map_id]at this
 .intro h;rw[h]
def Yc(v:JV)(o:qj):Nat⊕JV:=match zM v o.src with
 | none=>.inl 3
 | some m=>if o.src=o.path then .inr v else if o.src.isPrefixOf o.path then .inl 6 else match qZ v o.src with
  | none=>.inl 3
  | some r=>Z9 3 (qV r o.path m)
theorem zgy(h:zM v o.src=ν):Yc v o= .inl 3:=by unfold Yc;rw[h]
theorem zgz(h:zM v o.src=η m)(e:o.src=o.path):Yc v o= .inr v:=by unfold Yc;rw[h];simp only;rw[yg e]
theorem zgA(h:zM v o.src=η m)(e:¬ o.src=o.path)(hp:o.src.isPrefixOf o.path=ξ):Yc v o= .inl 6:=by unfold Yc;rw[h];simp only;rw[yf e,yg hp]
theorem Eo(h:zM v o.src=η m)(e:¬ o.src=o.path)(hp:¬ o.src.isPrefixOf o.path=ξ)(hd:qZ v o.src=ν):Yc v o= .inl 3:=by unfold Yc;rw[h];simp only;rw[yf e,yf hp,hd]
theorem Ep{r:JV}(h:zM v o.src=η m)(e:¬ o.src=o.path)(hp:¬ o.src.isPrefixOf o.path=ξ)(hd:qZ v o.src=η r):Yc v o=Z9 3 (qV r o.path m):=by unfold Yc;rw[h];simp only;rw[yf e,yf hp,hd]
theorem Eq{a b:List (List UInt8)}:a.isPrefixOf b=ξ↔a=b.take a.length:=by
 rw[List.isPrefixOf_iff_prefix,List.prefix_iff_eq_take]
theorem SS.takeT(h:SS w a g off (ts.map zG))(k:Nat)(hk:k<=ts.length):SS w a g off ((ts.take k).map zG):=by
 refine⟨fun h0=>h.ad ?_,fun j hj=>?_⟩
 .rw[yl,ym]at h0;rw[yl];omega
 .rw[yl,ym]at hj;rw[h.cell j (by rw[yl];omega),PT om,PT (by rw[ym];omega)];congr 3;simp only[Ν,List.getElem?_take];rw[yg om]
theorem zgB(v:JV)(o:qj)(w:Wo)(ty:TypeId)(p:ω){b:Bool}(hw:qC w)(hv:zx v)(hl:(ct v).length<=200000)(hr:zT w v (φ ty p))(ho:Vk w og o b pa fa pg pc fg fc vt vp)(hsl:o.src.length<=1048577):
  δ prog 183 #[φ ty p,og] w (Zq w (Yc v o)):=by
 have F:=ho.path;have E:=ho.src;have HV:=zb (Dk v hv o.src fa fg 0 fc w ty p hr E.row hsl E.tok);have HR:Hid (∀ w1,Below w w w1->zT w1 v (φ ty p)):=fun w1 hx=>hr.next hx;have S:Hid (∀ (X:Wo) (e:Bool),decide (o.src=o.path)=e->Below w w X->δ prog 221 #[ς fa o.src.length fc,ς pa o.path.length pc] X fun V w'=>V=ε (θ e)/\Below X X w'):=by
  intro X e G hx;have:=MY (o.src.map zG) (o.path.map zG) fa pa fg 0 fc pg 0 pc X (E.row.below hx) (F.row.below hx) (by rw[yl];omega);rw[yl,yl]at this;refine this.mono ?_;rintro V w' ⟨rfl,n,rfl⟩;exact⟨by rw[← G];congr 2;simp only[En],GQ X n⟩
 have T:Hid (∀ (X:Wo) (e:Bool),o.src.length<o.path.length->o.src.isPrefixOf o.path=e->Below w w X->δ prog 221 #[ς fa o.src.length fc,ς pa o.src.length pc] X fun V w'=>V=ε (θ e)/\Below X X w'):=by
  intro X e hlt G hx;have:=MY (o.src.map zG) ((o.path.take o.src.length).map zG) fa pa fg 0 fc pg 0 pc X (E.row.below hx) ((F.row.below hx).takeT _ om) (by rw[yl];omega);rw[yl,yl,ym,Nat.min_eq_left om]at this;refine this.mono ?_;rintro V w' ⟨rfl,n,rfl⟩;refine⟨?_,GQ X n⟩;congr 2;rw[← G,Bool.eq_iff_iff,decide_eq_true_eq,En,Eq]
 have Q:Hid (∀ X,Below w w X->δ prog 217 #[φ ty p,ς fa o.src.length fc] X (Zq X (Z9 3 (qZ v o.src)))):=fun X hx=>
  Eg v o.src fa fg 0 fc X ty p hv om (hr.next hx) (E.row.below hx) E.cap1 E.cap2 E.len E.tok
 have O:Hid (∀ (X:Wo) (r m:JV) t1 p1 t2 p2,Below w w X->qZ v o.src=η r->zT X r (φ t1 p1)->zT X m (φ t2 p2)->δ prog 216 #[φ t1 p1,ς pa o.path.length pc,φ t2 p2] X (Zq X (Z9 3 (qV r o.path m)))):=fun X r m t1 p1 t2 p2 hx l a i=>
  Dx r m o.path pa pg 0 pc X t1 t2 p1 p2 (hw.up hx) (KE hv l) (by have:=Fe hv l;omega) a i (F.row.below hx) F.cap1 F.cap2 F.len F.tok
 have D:Hid (∀ w1,Below w w w1->w1.cell? ⟨og,7,ν⟩=η (ς pa o.path.length pc)/\w1.cell? ⟨og,8,ν⟩=η (ς fa o.src.length fc)):=fun w1 hx=>⟨(ho.next hx).c7,(ho.next hx).c8⟩;have c8:=ho.c8;have hcap:=F.cap1;have hcap2:=F.cap2;generalize hnp:o.path.length=n at *;generalize hns:o.src.length=k at *;have K:=zb hnp;have L:=zb hns;go_in;go_wp2_with fail;go_call HV as e w1 ⟨b1,⟨c,ev,a,rfl,i⟩ |⟨m,t',q,a,rfl,i⟩⟩
 .have Y:zM v o.src=ν:=by
   cases hq:zM v o.src with
   | none=>rfl
   | some y=>rw[hq]at a;cases a
  rw[Y]at a;have W:c=3:=by injection a with a;exact a.symm
  subst W;have P:Hid (Zq w (Yc v o) (ε (τ #[.nilIface,ev])) w1):=⟨b1,.inl ⟨3,ev,zgy Y,rfl,i⟩⟩;obtain⟨fb,rfl,-⟩:=i;go_wp2;go_ret2;exact P
 .have Y:=Jh a;have N:=zb Y;have HM:=zb i;have HB:=zb b1;have bd:Below w w w1.drew:=b1.drew;obtain⟨U,C⟩:=uh D w1 b1;by_cases G:o.src=o.path
  .have R:=zb (uh S w1.drew ξ (yj G) bd);have M:=zb (zgz N G);go_wp2_with fail;go_region_law (go_simp;go_call R as e w2 ⟨rfl,b2⟩;have d:=zb (zh HB.drew b2);clear b2 R)
   all_goals
    go_wp2;go_ret2;exact⟨d,.inr ⟨v,_,_,M,rfl,uh HR _ d⟩⟩
  .have R:=zb (uh S w1.drew ζ (yk G) bd);have s:=zb G;go_wp2_with fail;go_region_law (go_simp;go_call R as e w2 ⟨rfl,b2⟩;have d:=zb (zh HB.drew b2);have I:=zb ((zT.next (w':=w1.drew) HM (yI _ _).drew).next b2);clear b2 R HM U C)
   all_goals
    obtain⟨U,C⟩:=uh D _ d;by_cases hlt:k<n
    .have hltI:(k:Int)<(n:Int):=om;have hkc:k<=pc:=om;have hkI:(k:Int)<=(pc:Int):=om
     cases hpx:o.src.isPrefixOf o.path with
     | true=>
      have B:=zb (uh T w2.drew ξ (by have:=uh K;have:=uh L;omega) hpx d.drew);have M:=zb (zgA N s hpx);have SD:=zb (uh D w2.drew d.drew);go_wp2_with fail;go_region_held3 (fun w'=>w'.cell? ⟨og,7,ν⟩=η (ς pa n pc)/\w'.cell? ⟨og,8,ν⟩=η (ς fa k fc)) (first | exact uh S3 | exact SD) (first |(go_simp;go_call B as e w3 ⟨rfl,u⟩;have f:=zb (zh d.drew u);have S3:=zb (uh D w3 f);clear u B))
      all_goals
       go_wp2;go_ret2;exact⟨zh f (zt _ _),.inl ⟨6,_,M,rfl,_,rfl,yH _ _⟩⟩
     | false=>
      have B:=zb (uh T w2.drew ζ (by have:=uh K;have:=uh L;omega) hpx d.drew);have g:Hid (¬ o.src.isPrefixOf o.path=ξ):=by rw[hpx];exact fun h=>by cases h
      have SD:=zb (uh D w2.drew d.drew);go_wp2_with fail;go_region_held3 (fun w'=>w'.cell? ⟨og,7,ν⟩=η (ς pa n pc)/\w'.cell? ⟨og,8,ν⟩=η (ς fa k fc)) (first | exact uh S3 | exact SD) (first |(go_simp;go_call B as e w3 ⟨rfl,u⟩;have f:=zb (zh d.drew u);have J:=zb ((zT.next (w':=w2.drew) I (yI _ _).drew).next u);have S3:=zb (uh D w3 f);clear u B I U C))
      all_goals
       have u:=uh f;have A:=zb (uh Q _ u);obtain⟨-,C⟩:=uh D _ u;go_wp2_with fail;go_call A as e w4 ⟨b4,⟨c,ev,a,rfl,i⟩ |⟨r,t4,q4,a,rfl,i⟩⟩
       .have l:qZ v o.src=ν:=by
         cases hq:qZ v o.src with
         | none=>rfl
         | some y=>rw[hq]at a;cases a
        rw[l]at a;have W:c=3:=by injection a with a;exact a.symm
        subst W;have P:Hid (Zq w (Yc v o) (ε (τ #[.nilIface,ev])) w4):=⟨zh f b4,.inl ⟨3,ev,Eo N s g l,rfl,i⟩⟩;obtain⟨fb,rfl,-⟩:=i;go_wp2;go_ret2;exact P
       .have l:=Jh a;have j:=zh f b4;have z:=zb (uh O w4 r m t4 q4 t' q j l i (J.next b4));have M:=zb (Ep N s g l);obtain⟨U,-⟩:=uh D w4 j;have H:=zb j;go_wp2_with fail;go_call z as e w5 hP;obtain⟨x,y,rfl,hQ⟩:=Zq.two hP;have Z:=zb (Zq.from H hQ);go_wp2;go_ret2;rw[uh M];exact Z
    .have hnltI:¬ (k:Int)<(n:Int):=om;have g:Hid (¬ o.src.isPrefixOf o.path=ξ):=fun h=>uh s (by
      have e:=Eq.1 h;have a:=uh K;have i:=uh L
      rwa [yr om]at e)
     go_wp2_with fail;go_quiet (fail);have f:Hid (Below w w (w2.drewN nq)):=WX d nq;have J:Hid (zT (w2.drewN nq) m (φ t' q)):=zT.next I (GQ w2 nq);have u:=uh f;have A:=zb (uh Q _ u);obtain⟨-,C⟩:=uh D _ u;go_wp2_with fail;go_call A as e w4 ⟨b4,⟨c,ev,a,rfl,i⟩ |⟨r,t4,q4,a,rfl,i⟩⟩
     .have l:qZ v o.src=ν:=by
       cases hq:qZ v o.src with
       | none=>rfl
       | some y=>rw[hq]at a;cases a
      rw[l]at a;have W:c=3:=by injection a with a;exact a.symm
      subst W;have P:Hid (Zq w (Yc v o) (ε (τ #[.nilIface,ev])) w4):=⟨zh f b4,.inl ⟨3,ev,Eo N s g l,rfl,i⟩⟩;obtain⟨fb,rfl,-⟩:=i;go_wp2;go_ret2;exact P
     .have l:=Jh a;have j:=zh f b4;have z:=zb (uh O w4 r m t4 q4 t' q j l i (J.next b4));have M:=zb (Ep N s g l);obtain⟨U,-⟩:=uh D w4 j;have H:=zb j;go_wp2_with fail;go_call z as e w5 hP;obtain⟨x,y,rfl,hQ⟩:=Zq.two hP;have Z:=zb (Zq.from H hQ);go_wp2;go_ret2;rw[uh M];exact Z
theorem Er:NJ:=fun v o w ty p og b pa fa pg pc fg fc vt vp hk hw hv hl hr ho hsl _=>by
 have e:ZS v o=Yc v o:=by
  unfold ZS Yc;rw[yf om,yf om,yf om,yg hk];rfl
 rw[e];exact zgB v o w ty p hw hv hl hr ho hsl
