import Derived.Test.YtocnekbedcnmgaaGreatDoorBa4
import Derived.Test.YtocnekbedcnmgaaGreatDoorBa9
import Derived.Test.YtocnekbedcnmgaaGreatDoorBa1
import Derived.Test.YtocnekbedcnmgaaGreatDoorBa12
import Derived.Test.YtocnekbedcnmgaaGreatDoorBa8
import Derived.Test.YtocnekbedcnmgaaGreatDoorBa6
import Derived.Test.YtocnekbedcnmgaaGreatDoorBa5
set_option maxRecDepth 100000
set_option maxHeartbeats 8000000
namespace Go.Proofs.YtocnekbedcnmgaaGreatDoor
open Go.RowKit
theorem tok_getD {ts:List (List UInt8)} {j:Nat} (h:j < ts.length) : (ts.map baT).getD j ByteArray.empty=baT (ts.getD j []):=by simp[h]
def FindP (ps:List Part) (key:List UInt8) (e:Ending) : Prop:=(e = .returned (.int .i64 (-1))∧∀ j (hj:j < ps.length),ps[j].1≠key)∨∃ (j:Nat) (hj:j < ps.length),e = .returned (.int .i64 (j:Int))∧ps[j].1=key
theorem FindP.no {ps:List Part} {key:List UInt8} {e:Ending} (h:e = .returned (.int .i64 (-1))) (k:∀ j (hj:j < ps.length),ps[j].1≠key) : FindP ps key e:=Or.inl ⟨h,k⟩
theorem FindP.yes {ps:List Part} {key:List UInt8} {e:Ending} {j:Nat} (hj:j < ps.length) (h:e = .returned (.int .i64 (j:Int))) (k:ps[j].1=key) : FindP ps key e:=Or.inr ⟨j,hj,h,k⟩
def ChildP (v:JV) (t:List UInt8) (e:Ending) : Prop:=(e = .returned (.int .i64 (-1))∧childV v t=none)∨∃ (j:Nat) (hj:j < (partsV v).length) (u:JV),e = .returned (.int .i64 (j:Int))∧childV v t=some u∧(partsV v)[j].2=ct u∧(partsV v)[j].1=t
theorem ChildP.no {v:JV} {t:List UInt8} {e:Ending} (h:e = .returned (.int .i64 (-1))) (k:childV v t=none) : ChildP v t e:=Or.inl ⟨h,k⟩
theorem ChildP.yes {v u:JV} {t:List UInt8} {e:Ending} {j:Nat} (hj:j < (partsV v).length) (h:e = .returned (.int .i64 (j:Int))) (k:childV v t=some u∧(partsV v)[j].2=ct u∧(partsV v)[j].1=t) : ChildP v t e:=Or.inr ⟨j,hj,u,h,k.1,k.2.1,k.2.2⟩
theorem find_at (B:Nat) (v:Value) (ps:List Part) (key:List UInt8) (w:World) (h:PR w B v ps) (hn:ps.length≤40000000) :
  Calls Tryz.prog 81 #[v,.string (strOf key)] w fun e w'=>w=w'∧FindP ps key e:=by
 obtain⟨x,len,cap,rfl,hlen⟩ : ∃ x len cap,v = .slice x len cap∧len=ps.length:=by
  rcases h.2 with ⟨hv,h0⟩ | ⟨g,cap,cur,hv,_⟩
  ·exact⟨_,_,_,hv,h0.symm⟩
  ·exact⟨_,_,_,hv,rfl⟩
 subst hlen
 have HP:=hide h
 clear h
 go_enter Tryz.func81,Tryz.ntmps81
 go_wp2_with fail
 go_loopw [5] (fun k wr=>w=wr∧∃ j:Nat,k = .int .i64 (j:Int)∧j≤ps.length∧∀ i (hi:i < ps.length),i < j→ps[i].1≠key) (fun k _=>ps.length - (intOf k).toNat)
 case atStart=>exact⟨rfl,0,rfl,Nat.zero_le _,fun i _ hi=>by omega⟩
 case round=>
  obtain⟨rfl,j,rfl,hj,hno⟩:=hrel
  have HNO:=hide hno
  clear hno
  by_cases hin:j < ps.length
  ·have t1:((j:Int) < (ps.length:Int))=True:=eq_true (by omega)
   obtain⟨g,cap',he,hB,hgl,c0,c1⟩:=(uh HP).cells j hin
   injection he with he1 he2 he3
   subst he1; subst he3
   have heq:=str_eq ps[j].1 key
   by_cases hk:ps[j].1=key
   ·have t2:(ps[j].1 == key)=true:=by rw[beq_iff_eq]; exact hk
    have HK:=hide hk
    rw[t2] at heq
    clear hk t2
    go_wp2
    go_ret
    exact⟨rfl,FindP.yes hin rfl (uh HK)⟩
   ·have t2:(ps[j].1 == key)=false:=by rw[beq_eq_false_iff_ne]; exact hk
    have HX:Hid (∀ i (hi:i < ps.length),i < j+1→ps[i].1≠key):=fun i hi hij=>by
     by_cases e:i=j
     ·subst e; exact hk
     ·exact uh HNO i hi (by omega)
    rw[t2] at heq
    clear hk t2
    go_wp2
    go_roundw
    case rel=>exact⟨trivial,j+1,by go_num,by omega,uh HX⟩
    case measure=>simp[intOf]; omega
  ·have t1:((j:Int) < (ps.length:Int))=False:=eq_false (by omega)
   go_wp2
   go_ret
   exact⟨rfl,FindP.no rfl (fun i hi=>uh HNO i hi (by omega))⟩
theorem parts_ct (v:JV) (hok:okV v) (w:World) (hl:(ct v).length≤1000000) :
  Calls Tryz.prog 35 #[.string (strOf (ct v))] w fun e w'=>∃ r,e = .returned r∧PR w' w.heap.size r (partsV v)∧Below w.heap.size w w':=by
 have leaf:∀ (c:UInt8) (r:List UInt8),ct v=c :: r→c.toNat≠91→c.toNat≠123→partsV v=[]→Calls Tryz.prog 35 #[.string (strOf (ct v))] w fun e w'=>∃ r,e = .returned r∧PR w' w.heap.size r (partsV v)∧Below w.heap.size w w':=fun c r hc h1 h2 hp=>by
  rw[hp,hc]
  obtain⟨a,b⟩:=bt_first (c:=c) (r:=r)
  exact parts_leaf _ w a (by rw[b]; exact h1) (by rw[b]; exact h2)
 cases v with
 | arr l=>rw[okV] at hok; exact parts_arr l hok w (by rw[strOf_size]; exact hl)
 | obj m=>rw[okV] at hok; exact parts_obj m hok w (by rw[strOf_size]; exact hl)
 | nul=>exact leaf 110 _ rfl (by decide) (by decide) rfl
 | tt=>exact leaf 116 _ rfl (by decide) (by decide) rfl
 | ff=>exact leaf 102 _ rfl (by decide) (by decide) rfl
 | num l=>
  have hp:=num_plain hok
  cases l with
  | nil=>exact absurd rfl hp.1
  | cons c r=>
   have:=(hp.2 c List.mem_cons_self).1
   exact leaf c r rfl this.2.1 this.2.2.1 rfl
 | str l=>exact leaf 34 (qs l++[34]) rfl (by decide) (by decide) rfl
theorem parts_len {v:JV} (hok:okV v) (hl:(ct v).length≤1000000) : (partsV v).length≤1000000:=by
 cases v with
 | arr l=>
  show (idxF 0 (ctL l)).length≤_
  rw[idxF_len]
  have:(strOf (ct (.arr l))).data.toList=91 :: (joinC (ctL l)++[93]):=by rw[strOf_toList]; rfl
  have:=keyLen this
  rw[strOf_size] at this
  omega
 | obj m=>
  show (isort (ctM m)).length≤_
  have:(strOf (ct (.obj m))).data.toList=123 :: (joinC ((isort (ctM m)).map memT)++[125]):=by rw[strOf_toList]; rfl
  have:=keyLen this
  rw[strOf_size,List.length_map] at this
  omega
 | nul=>simp[partsV]
 | tt=>simp[partsV]
 | ff=>simp[partsV]
 | num l=>simp[partsV]
 | str l=>simp[partsV]
theorem child_walk (v:JV) (hok:okV v) (htw:twV v=false) (t:List UInt8) (ht:t.length≤1048576) (w:World) (hl:(ct v).length≤1000000) :
  Calls Tryz.prog 137 #[.string (strOf (ct v)),.string (strOf t)] w fun e w'=>Below w.heap.size w w'∧ChildP v t e:=by
 have HP:Hid (∀ w,Calls Tryz.prog 35 #[.string (strOf (ct v))] w fun e w'=>∃ r,e = .returned r∧PR w' w.heap.size r (partsV v)∧Below w.heap.size w w'):=fun w=>parts_ct v hok w hl
 have HI:Hid (∀ w,Calls Tryz.prog 141 #[.string (strOf t)] w fun e w'=>e = .returned (.int .i64 (idxZ t))∧w=w'):=fun w=>by
  have:=l1Index_walk (strOf t) w (by rw[strOf_size]; exact ht)
  rwa [strOf_toList] at this
 have hpl:=parts_len hok hl
 have hne:=ct_ne v hok
 have h0:0 < (strOf (ct v)).size:=by rw[strOf_size]; cases h:ct v with
  | nil=>exact absurd h hne
  | cons _ _=>simp
 have hI:(0:Int) < ((strOf (ct v)).size:Int):=by omega
 have hfirst:(strOf (ct v))[0].toNat=91↔∃ l,v = .arr l:=by
  rw[← bt_at _ 0 h0]
  constructor
  ·intro h
   cases v with
   | arr l=>exact⟨l,rfl⟩
   | obj m=>exact absurd h (by rw[show ct (.obj m)=123 :: (joinC ((isort (ctM m)).map memT)++[125]) from rfl,(bt_first (c:=123) (r:=joinC ((isort (ctM m)).map memT)++[125])).2]; decide)
   | nul=>exact absurd h (by decide)
   | tt=>exact absurd h (by decide)
   | ff=>exact absurd h (by decide)
   | num l=>
    have hp:=num_plain hok
    cases l with
    | nil=>exact absurd rfl hp.1
    | cons c r=>
     have h2:bt (strOf (c :: r)) 0=91:=h
     rw[(bt_first (c:=c) (r:=r)).2] at h2
     exact absurd h2 (hp.2 c List.mem_cons_self).1.2.1
   | str l=>exact absurd h (by rw[show ct (.str l)=34 :: (qs l++[34]) from rfl,(bt_first (c:=34) (r:=qs l++[34])).2]; decide)
  ·rintro⟨l,rfl⟩
   exact (bt_first (c:=91) (r:=joinC (ctL l)++[93])).2
 have HFO:Hid (((∃ l,v = .arr l)→(idxT t).isSome=true)→∀ {j:Nat} (hj:j < (partsV v).length),(partsV v)[j].1=t→∃ u,childV v t=some u∧(partsV v)[j].2=ct u):=fun hi {j} hj hk=>child_found hok htw hi hj hk
 have HMI:Hid ((∀ j (hj:j < (partsV v).length),(partsV v)[j].1≠t)→childV v t=none):=fun h=>child_missed h
 have HNO:Hid ((∃ l,v = .arr l)→idxT t=none→childV v t=none):=fun ⟨l,e⟩ h=>by subst e; rw[childV_arr,h]; rfl
 have hrest:((∃ l,v = .arr l)→(idxT t).isSome=true)→∀ w1 (r:Value),PR w1 w.heap.size r (partsV v)→Calls Tryz.prog 81 #[r,.string (strOf t)] w1 fun e w'=>w1=w'∧ChildP v t e:=fun hi w1 r hr=>by
  refine (find_at _ r (partsV v) t w1 hr (by omega)).mono ?_
  rintro e w' ⟨rfl,⟨rfl,h⟩ | ⟨j,hj,rfl,hk⟩⟩
  ·exact⟨rfl,ChildP.no rfl (uh HMI h)⟩
  ·obtain⟨u,h1,h2⟩:=uh HFO hi hj hk
   exact⟨rfl,ChildP.yes hj rfl ⟨h1,h2,hk⟩⟩
 have HREST:=hide hrest
 clear hrest HFO HMI
 by_cases ha:∃ l,v = .arr l
 ·have f1:(((strOf (ct v))[0].toNat:Int) == 91)=true:=by rw[beq_iff_eq]; have:=hfirst.2 ha; omega
  cases hx:idxT t with
  | none=>
   have HN:=hide (uh HNO ha hx)
   have ez:idxZ t = -1:=by unfold idxZ; rw[hx]
   rw[ez] at HI
   clear hfirst HNO HREST ha hx ez HP hne hok htw
   generalize strOf (ct v)=T at *
   go_enter Tryz.func137,Tryz.ntmps137
   go_wp2_with fail
   refine (uh HI _).mono ?_
   rintro e w1 ⟨rfl,rfl⟩
   clear HI
   go_wp2
   go_ret
   exact⟨Below.refl _ _,ChildP.no rfl (uh HN)⟩
  | some i=>
   have HR:=hide (uh HREST (fun _=>by rw[hx]; rfl))
   have ez:idxZ t=(i:Int):=by unfold idxZ; rw[hx]
   rw[ez] at HI
   have ti:¬ (i:Int) < 0:=by omega
   clear hfirst HNO HREST ha hx ez hne hok htw
   generalize strOf (ct v)=T at *
   go_enter Tryz.func137,Tryz.ntmps137
   go_wp2_with fail
   refine (uh HI _).mono ?_
   rintro e w1 ⟨rfl,rfl⟩
   clear HI
   go_wp2_with fail
   refine (uh HP _).mono ?_
   rintro e w1 ⟨r,rfl,p1,b1⟩
   have HR1:=hide (uh HR w1 r p1)
   clear HP HR p1
   go_wp2_with fail
   refine (uh HR1).mono ?_
   rintro e w2 ⟨rfl,⟨rfl,h⟩ | ⟨j,hj,u,rfl,h1,h2⟩⟩
   ·clear HR1
    have HH:=hide h
    clear h
    go_wp2
    go_ret
    exact⟨b1,ChildP.no rfl (uh HH)⟩
   ·clear HR1
    have HH:=hide (⟨h1,h2⟩ : childV v t=some u∧(partsV v)[j].2=ct u∧(partsV v)[j].1=t)
    clear h1 h2
    go_wp2
    go_ret
    exact⟨b1,ChildP.yes hj rfl (uh HH)⟩
 ·have f1:(((strOf (ct v))[0].toNat:Int) == 91)=false:=by rw[beq_eq_false_iff_ne]; intro e; exact ha (hfirst.1 (by omega))
  have HR:=hide (uh HREST (fun h=>absurd h ha))
  clear hfirst HNO HREST ha hne hok htw HI
  generalize strOf (ct v)=T at *
  go_enter Tryz.func137,Tryz.ntmps137
  go_wp2_with fail
  refine (uh HP _).mono ?_
  rintro e w1 ⟨r,rfl,p1,b1⟩
  have HR1:=hide (uh HR w1 r p1)
  clear HP HR p1
  go_wp2_with fail
  refine (uh HR1).mono ?_
  rintro e w2 ⟨rfl,⟨rfl,h⟩ | ⟨j,hj,u,rfl,h1,h2⟩⟩
  ·clear HR1
   have HH:=hide h
   clear h
   go_wp2
   go_ret
   exact⟨b1,ChildP.no rfl (uh HH)⟩
  ·clear HR1
   have HH:=hide (⟨h1,h2⟩ : childV v t=some u∧(partsV v)[j].2=ct u∧(partsV v)[j].1=t)
   clear h1 h2
   go_wp2
   go_ret
   exact⟨b1,ChildP.yes hj rfl (uh HH)⟩
def getR (v:JV) (ts:List (List UInt8)) : Value:=match getV v ts with
 | some u=>.tuple #[.string (strOf (ct u)),.bool true]
 | none=>.tuple #[.string ⟨#[]⟩,.bool false]
theorem get_walkS (v:JV) (hok:okV v) (htw:twV v=false) (hl:(ct v).length≤1000000) (a:Option Addr) (g off cap:Nat) (ts:List (List UInt8)) (w:World) (hs:SS w a g off (ts.map baT)) (hn:ts.length≤1048577) (ht:∀ t∈ts,t.length≤1048576) :
  Calls Tryz.prog 94 #[.string (strOf (ct v)),.slice a ts.length cap] w fun e w'=>e = .returned (getR v ts)∧Below w.heap.size w w':=by
 have hadr:=hs.ad
 have HSS:=hide hs
 rw[List.length_map] at hadr
 have HCH:Hid (∀ (u:JV) (k:Nat) (hk:k < ts.length) (w:World),okV u→twV u=false→(ct u).length≤1000000→Calls Tryz.prog 137 #[.string (strOf (ct u)),.string (strOf ts[k])] w fun e w'=>Below w.heap.size w w'∧ChildP u ts[k] e):=fun u k hk w o1 o2 o3=>child_walk u o1 o2 ts[k] (ht _ (List.getElem_mem hk)) w o3
 have HPA:Hid (∀ (u:JV) (w:World),okV u→(ct u).length≤1000000→Calls Tryz.prog 35 #[.string (strOf (ct u))] w fun e w'=>∃ r,e = .returned r∧PR w' w.heap.size r (partsV u)∧Below w.heap.size w w'):=fun u w o1 o2=>parts_ct u o1 w o2
 clear hs ht
 go_enter Tryz.func94,Tryz.ntmps94
 go_wp2
 go_loopw [0,6] (fun sv iv wr=>∃ (k:Nat) (u:JV),k≤ts.length∧iv = .int .i64 (k:Int)∧sv = .string (strOf (ct u))∧getV v (ts.take k)=some u∧okV u∧twV u=false∧(ct u).length≤1000000∧Below w.heap.size w wr) (fun _ iv _=>ts.length - (intOf iv).toNat)
 case atStart=>exact⟨0,v,Nat.zero_le _,rfl,rfl,rfl,hok,htw,hl,Below.refl _ _⟩
 case round=>
  obtain⟨k,u,hk,rfl,rfl,hg,ho,htu,hlu,hb⟩:=hrel
  have HG:=hide hg
  have HB:=hide hb
  by_cases hlt:k < ts.length
  ·have hltI:(k:Int) < (ts.length:Int):=by omega
   obtain rfl:=hadr (by omega)
   have hck:=((uh HSS).below hb).cell k (by rw[List.length_map]; exact hlt)
   rw[tok_getD hlt] at hck
   have hgd:baT (ts.getD k [])=strOf ts[k]:=by simp[List.getD,hlt,baT,strOf]
   rw[hgd] at hck
   have HC:=hide (uh HCH u k hlt wr ho htu hlu)
   have HST:Hid (childV u ts[k]=none→getR v ts = .tuple #[.string ⟨#[]⟩,.bool false]):=fun hc=>by unfold getR; rw[getV_stop hlt hg hc]
   have HNX:Hid (∀ u',childV u ts[k]=some u'→getV v (ts.take (k+1))=some u'∧okV u'∧twV u'=false∧(ct u').length≤1000000):=fun u' hc=>by
    obtain⟨c1,c2,c3,_⟩:=childV_ok hc ho htu
    exact⟨by rw[getV_step hlt hg]; exact hc,c1,c2,by omega⟩
   have HPU:Hid (∀ w,Calls Tryz.prog 35 #[.string (strOf (ct u))] w fun e w'=>∃ r,e = .returned r∧PR w' w.heap.size r (partsV u)∧Below w.heap.size w w'):=fun w=>uh HPA u w ho hlu
   generalize strOf (ct u)=su at *
   generalize strOf ts[k]=st at *
   clear hg hb HG HCH HPA hgd
   go_wp2_with fail
   refine (uh HC).mono ?_
   rintro e w1 ⟨b1,⟨rfl,hcn⟩ | ⟨j,hj,u',rfl,hcs,hpt,-⟩⟩
   ·have HV:=hide (uh HST hcn)
    have B1:=below_next (uh HB) b1
    clear HC HST HNX HPU hck hcn
    go_wp2
    go_ret2
    exact⟨by rw[uh HV]; rfl,B1⟩
   ·obtain⟨n1,n2,n3,n4⟩:=uh HNX u' hcs
    have B1:=hide (below_next (uh HB) b1)
    have HN:=hide (⟨n1,n2,n3,n4⟩ : getV v (ts.take (k+1))=some u'∧okV u'∧twV u'=false∧(ct u').length≤1000000)
    have tj:¬ (j:Int) < 0:=by omega
    clear HC HST HNX hck hcs n1 n2 n3 n4 b1
    go_wp2_with fail
    refine (uh HPU _).mono ?_
    rintro e w2 ⟨r2,rfl,p2,b2⟩
    obtain⟨g2,cap2,he,_,_,c0,c1⟩:=p2.cells j hj
    subst he
    rw[hpt] at c1
    have hjI:(j:Int) < ((partsV u).length:Int):=by omega
    have B2:=hide (below_next (uh B1) b2)
    clear HPU p2 b2 B1 c0 hpt
    generalize (partsV u).length=pl at *
    go_wp2
    go_roundw
    case rel=>exact⟨k+1,u',by omega,by go_num,rfl,(uh HN).1,(uh HN).2.1,(uh HN).2.2.1,(uh HN).2.2.2,uh B2⟩
    case measure=>simp[intOf]; omega
  ·have e:ts.take k=ts:=List.take_of_length_le (by omega)
   rw[e] at HG
   have HV:Hid (getR v ts = .tuple #[.string (strOf (ct u)),.bool true]):=by show _=_; unfold getR; rw[uh HG]
   generalize strOf (ct u)=su at *
   clear hg hb HG HCH HPA e
   go_wp2
   go_ret2
   exact⟨by rw[uh HV]; rfl,uh HB⟩
theorem mapM_mem {ps:List (List UInt8)} : ∀ {ts:List (List UInt8)},ps.mapM unesc=some ts→∀ t∈ts,∃ p∈ps,unesc p=some t:=by
 induction ps with
 | nil=>intro ts h t ht; simp at h; subst h; simp at ht
 | cons p ps ih=>
  intro ts h t ht
  rw[mapM_cons'] at h
  cases hu:unesc p with
  | none=>rw[hu] at h; simp at h
  | some q=>
   cases hm:List.mapM unesc ps with
   | none=>rw[hu,hm] at h; simp at h
   | some us=>
    rw[hu,hm] at h
    simp at h
    subst h
    rcases List.mem_cons.1 ht with rfl | ht
    ·exact⟨p,List.mem_cons_self,hu⟩
    ·obtain⟨p',h1,h2⟩:=ih hm t ht
     exact⟨p',List.mem_cons_of_mem _ h1,h2⟩
theorem unesc_len:∀ (n:Nat) (p t:List UInt8),p.length≤n→unesc p=some t→t.length≤p.length:=by
 intro n
 induction n with
 | zero=>intro p t hl h; obtain rfl:=List.eq_nil_of_length_eq_zero (Nat.le_zero.1 hl); simp[unesc] at h; subst h; simp
 | succ n ih=>
  intro p t hl h
  cases p with
  | nil=>simp[unesc] at h; subst h; simp
  | cons c r=>
   have fin:∀ (r':List UInt8) (x:List UInt8),r'.length≤r.length→x.length=1→(unesc r').map (x++·)=some t→t.length≤(c :: r).length:=fun r' x hr hx hm=>by
    cases hu:unesc r' with
    | none=>rw[hu] at hm; simp at hm
    | some u=>
     rw[hu] at hm
     simp at hm
     have:=ih r' u (by simp at hl; omega) hu
     rw[← hm]; simp; omega
   by_cases h1:(c.toNat:Int)=126
   ·cases r with
    | nil=>rw[unesc_end h1] at h; cases h
    | cons d r=>
     by_cases h2:(d.toNat:Int)=48
     ·rw[unesc_0 r h1 h2] at h; exact fin r [126] (by simp) rfl h
     ·by_cases h3:(d.toNat:Int)=49
      ·rw[unesc_1 r h1 h3] at h; exact fin r [47] (by simp) rfl h
      ·rw[unesc_bad r h1 h2 h3] at h; cases h
   ·rw[unesc_lit r h1] at h; exact fin r [c] (Nat.le_refl _) rfl h
theorem ptoks_small {l:List UInt8} {ts:List (List UInt8)} (h:ptoks l=some ts) : ∀ t∈ts,t.length≤l.length:=by
 intro t ht
 cases l with
 | nil=>simp[ptoks] at h; subst h; simp at ht
 | cons c r=>
  rw[ptoks] at h
  split at h
  ·unfold toks at h
   obtain⟨p,hp,hu⟩:=mapM_mem h t ht
   have h1:=unesc_len _ p t (Nat.le_refl _) hu
   have h2:=pieces_size r p hp
   simp; omega
  ·cases h
def wstep (ps:List Part) (p:Nat) (dr pu:Bool) (q:Part) (i:Nat) : List Part:=
 (if i=p∧pu=true then [q] else [])++(if h:i < ps.length then (if i≠p∨dr=false then [ps[i]] else []) else [])
def wacc (ps:List Part) (p:Nat) (dr pu:Bool) (q:Part) (k:Nat) : List Part:=(List.range k).flatMap (wstep ps p dr pu q)
theorem wacc_succ (ps:List Part) (p:Nat) (dr pu:Bool) (q:Part) (k:Nat) : wacc ps p dr pu q (k+1)=wacc ps p dr pu q k++wstep ps p dr pu q k:=by
 unfold wacc; rw[List.range_succ,List.flatMap_append,List.flatMap_singleton]
theorem wstep_le (ps:List Part) (p:Nat) (dr pu:Bool) (q:Part) (i:Nat) : (wstep ps p dr pu q i).length≤2:=by
 unfold wstep
 rw[List.length_append]
 repeat' split
 all_goals simp
theorem wacc_le (ps:List Part) (p:Nat) (dr pu:Bool) (q:Part) : ∀ k,(wacc ps p dr pu q k).length≤2*k
 | 0=>by simp[wacc]
 | k+1=>by
  rw[wacc_succ,List.length_append]
  have:=wacc_le ps p dr pu q k
  have:=wstep_le ps p dr pu q k
  omega
theorem ct_posW {v:JV} (h:okV v) : 0 < (strOf (ct v)).size:=by
 obtain⟨c,r,e,_⟩:=ct_fb h
 rw[strOf_size,e]
 simp
def mkV (v:JV) (ps:List Part) : List UInt8:=if kd v=5 then mkA (ps.map (·.2)) else mkO (isort ps)
theorem first_kd {v:JV} (h:okV v) (h0:0 < (strOf (ct v)).size) : ((((strOf (ct v))[0]).toNat:Int) == 91)=(kd v == 5):=by
 obtain⟨c,r,e,f⟩:=ct_fb h
 have hb:((strOf (ct v))[0]).toNat=c.toNat:=by
  rw[← bt_at _ 0 h0,e]
  exact (bt_first (c:=c) (r:=r)).2
 rw[hb,← f]
 unfold fb
 by_cases h1:c.toNat=91
 ·rw[h1]; rfl
 ·have a1:((c.toNat:Int) == 91)=false:=by rw[beq_eq_false_iff_ne]; omega
  rw[a1]
  symm
  rw[beq_eq_false_iff_ne]
  repeat (first | (split; omega) | split)
  all_goals omega
theorem with_walk (v:JV) (hok:okV v) (hl:(ct v).length≤1000000) (p:Nat) (dr pu:Bool) (q:Part) (w:World) (hp:p≤1000000)
  (hA:sumA (wacc (partsV v) p dr pu q ((partsV v).length+1))≤40000000) (hT:sumT (isort (wacc (partsV v) p dr pu q ((partsV v).length+1)))≤40000000) (hk:∀ x∈isort (wacc (partsV v) p dr pu q ((partsV v).length+1)),x.1.length≤1048576) :
  Calls Tryz.prog 140 #[.string (strOf (ct v)),.int .i64 (p:Int),.bool dr,.bool pu,.agg #[.string (strOf q.1),.string (strOf q.2)]] w fun e w'=>e = .returned (.string (strOf (mkV v (wacc (partsV v) p dr pu q ((partsV v).length+1)))))∧Below w.heap.size w w':=by
 obtain⟨i0,hi0,hz0,hz1,hz2⟩:=info_parts infoPart
 have hpl:=parts_len hok hl
 have h0:0 < (strOf (ct v)).size:=ct_posW hok
 have h0I:(0:Int) < ((strOf (ct v)).size:Int):=by omega
 have hfk:=first_kd hok h0
 have kA:=heap_alloc_new w (.cells #[.string (strOf q.1),.string (strOf q.2)] 63)
 have bA:=alloc_below w (.cells #[.string (strOf q.1),.string (strOf q.2)] 63)
 have zA:(w.alloc (.cells #[.string (strOf q.1),.string (strOf q.2)] 63)).heap.size=w.heap.size+1:=by simp
 have HP:=hide (parts_ct v hok (w.alloc (.cells #[.string (strOf q.1),.string (strOf q.2)] 63)) hl)
 have HKA:=hide kA
 have HBA:=hide bA
 have HZA:=hide zA
 have hwl:=wacc_le (partsV v) p dr pu q ((partsV v).length+1)
 have HMA:Hid (∀ (r:Value) (B:Nat) (wx:World),PR wx B r (wacc (partsV v) p dr pu q ((partsV v).length+1))→Calls Tryz.prog 69 #[r] wx fun e w'=>e = .returned (.string (strOf (mkA ((wacc (partsV v) p dr pu q ((partsV v).length+1)).map (·.2)))))∧Below wx.heap.size wx w'):=fun r B wx h=>mkArr_walk B r _ wx h hA (by omega)
 have HSO:Hid (∀ (r:Value) (B:Nat) (wx:World),PR wx B r (wacc (partsV v) p dr pu q ((partsV v).length+1))→Calls Tryz.prog 122 #[r] wx fun e w'=>∃ v',e = .returned v'∧PR w' wx.heap.size v' (isort (wacc (partsV v) p dr pu q ((partsV v).length+1)))∧Below wx.heap.size wx w'):=fun r B wx h=>sorted_walk B r _ wx h (by omega)
 have hil:(isort (wacc (partsV v) p dr pu q ((partsV v).length+1))).length≤40000000:=by rw[(isort_perm _).length_eq]; omega
 have HMO:Hid (∀ (r:Value) (B:Nat) (wx:World),PR wx B r (isort (wacc (partsV v) p dr pu q ((partsV v).length+1)))→Calls Tryz.prog 121 #[r] wx fun e w'=>e = .returned (.string (strOf (mkO (isort (wacc (partsV v) p dr pu q ((partsV v).length+1))))))∧Below wx.heap.size wx w'):=fun r B wx h=>make_walk B r _ wx h hT hil hk
 have HEA:Hid (kd v=5→mkV v (wacc (partsV v) p dr pu q ((partsV v).length+1))=mkA ((wacc (partsV v) p dr pu q ((partsV v).length+1)).map (·.2))):=fun h=>by unfold mkV; rw[if_pos h]
 have HEO:Hid (¬ kd v=5→mkV v (wacc (partsV v) p dr pu q ((partsV v).length+1))=mkO (isort (wacc (partsV v) p dr pu q ((partsV v).length+1)))):=fun h=>by unfold mkV; rw[if_neg h]
 clear kA bA zA hA hT hk hok hl hil hwl
 generalize kd v=K at *
 generalize mkV v (wacc (partsV v) p dr pu q ((partsV v).length+1))=R at *
 generalize partsV v=ps at *
 generalize strOf (ct v)=T at *
 go_enter Tryz.func140,Tryz.ntmps140
 go_wp2_with fail
 refine (uh HP).mono ?_
 rintro e w1 ⟨r1,rfl,p1,b1⟩
 have hB1:=below_next (uh HBA) b1
 have HB1:=hide hB1
 have hz1w:w.heap.size < w1.heap.size:=by have:=b1.size; have:=uh HZA; omega
 have HKQ:Hid (∀ wx,Below w1.heap.size w1 wx→wx.cell? ⟨w.heap.size,0,none⟩=some (.string (strOf q.1))∧wx.cell? ⟨w.heap.size,1,none⟩=some (.string (strOf q.2))):=fun wx hx=>by
  have k:=(hx.block w.heap.size hz1w).trans ((b1.block w.heap.size (by have:=uh HZA; omega)).trans (uh HKA))
  exact⟨Lib.cell_of_heap k 0,Lib.cell_of_heap k 1⟩
 have HPC:Hid (∀ k (hk:k < ps.length) wx,Below w1.heap.size w1 wx→∃ g,r1.ownBlock=some g∧(∃ cap,r1 = .slice (some ⟨g,0,none⟩) ps.length cap)∧wx.cell? ⟨g,k*2,none⟩=some (.string (strOf ps[k].1))∧wx.cell? ⟨g,k*2+1,none⟩=some (.string (strOf ps[k].2))):=fun k hk wx hx=>by
  obtain⟨g,cap,hv,_,_,c0,c1⟩:=(PR.below p1 hx).cells k hk
  exact⟨g,by rw[hv]; rfl,⟨cap,hv⟩,c0,c1⟩
 obtain⟨xa,xc,rfl⟩:=PR.shape p1
 clear HP b1 p1 hB1 HBA HKA
 go_wp2
 have HO0:Hid ((w1.alloc (.cells #[] 63)).ownsRow w1.heap.size 63 2 (.slice (some ⟨w1.heap.size,0,none⟩) 0 0) 0 []):=World.ownsRow_lit w1 #[] 0 (Nat.le_refl _) (by unfold maxLen; omega) rfl
 have HB0:Hid (Below w1.heap.size w1 (w1.alloc (.cells #[] 63))):=alloc_below w1 _
 go_loopw [12,13] (fun r i wr=>∃ k:Nat,k≤ps.length+1∧i = .int .i64 (k:Int)∧wr.ownsRow w1.heap.size 63 2 r (wacc ps p dr pu q k).length ((wacc ps p dr pu q k).flatMap partC)∧Below w1.heap.size w1 wr) (fun _ i _=>ps.length+1 - (intOf i).toNat)
 case atStart=>exact⟨0,Nat.zero_le _,rfl,uh HO0,uh HB0⟩
 case round=>
  obtain⟨k,hk,rfl,ho,hb⟩:=hrel
  clear HO0 HB0
  have HBR:=hide hb
  have hal:=wacc_le ps p dr pu q k
  have hbz:=hb.size
  by_cases hle:k≤ps.length
  ·have hleI:(k:Int)≤(ps.length:Int):=by omega
   have hal2:(wacc ps p dr pu q k).length≤2000002:=by omega
   clear HMA HSO HMO HEA HEO
   clear hal
   by_cases hkp:k=p
   ·subst hkp
    have tkp:((k:Int) == (k:Int))=true:=by simp
    have tkn:((k:Int) != (k:Int))=false:=by simp
    obtain⟨c0,c1⟩:=uh HKQ wr hb
    cases pu with
    | true=>
     by_cases hlt:k < ps.length
     ·have hltI:(k:Int) < (ps.length:Int):=by omega
      cases dr with
      | true=>
       have HSTP:Hid (wstep ps k true true q k=[q]):=by show _=_; unfold wstep; simp[hlt]
       obtain⟨A,hAe⟩ : ∃ A,wacc ps k true true q k=A:=⟨_,rfl⟩
       rw[hAe] at ho hal2
       have HAE:=hide hAe
       clear hAe
       go_wp2_with (at_builtin; refine wpList_append_own _ rfl (.tmp 29) (.tmp 31) 56 rfl w1.heap.size 63 i0 (.agg #[.string ByteArray.empty,.string ByteArray.empty]) 2 32 Tryz.underlying56 hi0 hz0 hz1 hz2 rfl (by decide) _ _ _ rfl (ho.alloc _) ⟨wr.heap.size,0,none⟩ 1 1 (partC q) rfl rfl (lit2s _ _ _ _) (fun u hu=>by { simp[partC] at hu; rcases hu with rfl | rfl <;> rfl }) (by unfold maxLen; omega) (by omega) (by simp; omega) ?_)
       intro v5 w5 own5 hg5 _
       have P5:w5.ownsRow w1.heap.size 63 2 v5 (A++[q]).length ((A++[q]).flatMap partC):=by rw[List.length_append,List.flatMap_append,List.flatMap_singleton]; exact own5
       have B5:=hide (((uh HBR).alloc (uh HBR).size _).grown hg5 (by simp; have:=(uh HBR).size; omega) (fun k hk=>(ho.lt k hk).1))
       clear own5 hg5
       clear ho c0 c1
       go_wp2
       go_roundw
       case rel=>exact⟨k+1,by omega,by go_num,by rw[wacc_succ,uh HSTP,uh HAE]; exact P5,uh B5⟩
       case measure=>simp[intOf]; omega
      | false=>
       have HSTP:Hid (wstep ps k false true q k=[q]++[ps[k]]):=by show _=_; unfold wstep; simp[hlt]
       obtain⟨g,-,⟨cap,e⟩,-,-⟩:=uh HPC k hlt wr hb
       injection e with e1 e2 e3
       subst e1; subst e3
       obtain⟨A,hAe⟩ : ∃ A,wacc ps k false true q k=A:=⟨_,rfl⟩
       rw[hAe] at ho hal2
       have HAE:=hide hAe
       clear hAe
       go_wp2_with (at_builtin; refine wpList_append_own _ rfl (.tmp 29) (.tmp 31) 56 rfl w1.heap.size 63 i0 (.agg #[.string ByteArray.empty,.string ByteArray.empty]) 2 32 Tryz.underlying56 hi0 hz0 hz1 hz2 rfl (by decide) _ _ _ rfl (ho.alloc _) ⟨wr.heap.size,0,none⟩ 1 1 (partC q) rfl rfl (lit2s _ _ _ _) (fun u hu=>by { simp[partC] at hu; rcases hu with rfl | rfl <;> rfl }) (by unfold maxLen; omega) (by omega) (by simp; omega) ?_)
       intro v5 w5 own5 hg5 _
       have P5:w5.ownsRow w1.heap.size 63 2 v5 (A++[q]).length ((A++[q]).flatMap partC):=by rw[List.length_append,List.flatMap_append,List.flatMap_singleton]; exact own5
       have B5:=hide (((uh HBR).alloc (uh HBR).size _).grown hg5 (by simp; have:=(uh HBR).size; omega) (fun k hk=>(ho.lt k hk).1))
       clear own5 hg5
       obtain⟨g',eg,-,d0,d1⟩:=uh HPC k hlt w5 (uh B5)
       injection eg with eg
       subst eg
       have hal5:(A++[q]).length≤2000003:=by rw[List.length_append]; simp; omega
       obtain⟨A2,hA2⟩ : ∃ A2,A++[q]=A2:=⟨_,rfl⟩
       rw[hA2] at P5 hal5
       have HA2E:=hide hA2
       have hz5w:=(uh B5).size
       clear hA2
       clear ho c0 c1
       go_wp2_with (at_builtin; refine wpList_append_own _ rfl (.tmp 46) (.tmp 51) 56 rfl w1.heap.size 63 i0 (.agg #[.string ByteArray.empty,.string ByteArray.empty]) 2 32 Tryz.underlying56 hi0 hz0 hz1 hz2 rfl (by decide) _ _ _ rfl (P5.alloc _) ⟨w5.heap.size,0,none⟩ 1 1 (partC ps[k]) rfl rfl (lit2s _ _ _ _) (fun u hu=>by { simp[partC] at hu; rcases hu with rfl | rfl <;> rfl }) (by unfold maxLen; omega) (by omega) (by simp; omega) ?_)
       intro v7 w7 own7 hg7 _
       have P7:w7.ownsRow w1.heap.size 63 2 v7 (A2++[ps[k]]).length ((A2++[ps[k]]).flatMap partC):=by rw[List.length_append,List.flatMap_append,List.flatMap_singleton]; exact own7
       have B7:=hide (((uh B5).alloc (uh B5).size _).grown hg7 (by simp; have:=(uh B5).size; omega) (fun k hk=>(P5.lt k hk).1))
       clear own7 hg7
       clear P5 d0 d1
       go_wp2
       go_roundw
       case rel=>exact⟨k+1,by omega,by go_num,by rw[wacc_succ,uh HSTP,← List.append_assoc,uh HAE,uh HA2E]; exact P7,uh B7⟩
       case measure=>simp[intOf]; omega
     ·have hltI:¬ (k:Int) < (ps.length:Int):=by omega
      have HSTP:Hid (wstep ps k dr true q k=[q]):=by show _=_; unfold wstep; simp[hlt]
      obtain⟨A,hAe⟩ : ∃ A,wacc ps k dr true q k=A:=⟨_,rfl⟩
      rw[hAe] at ho hal2
      have HAE:=hide hAe
      clear hAe
      go_wp2_with (at_builtin; refine wpList_append_own _ rfl (.tmp 29) (.tmp 31) 56 rfl w1.heap.size 63 i0 (.agg #[.string ByteArray.empty,.string ByteArray.empty]) 2 32 Tryz.underlying56 hi0 hz0 hz1 hz2 rfl (by decide) _ _ _ rfl (ho.alloc _) ⟨wr.heap.size,0,none⟩ 1 1 (partC q) rfl rfl (lit2s _ _ _ _) (fun u hu=>by { simp[partC] at hu; rcases hu with rfl | rfl <;> rfl }) (by unfold maxLen; omega) (by omega) (by simp; omega) ?_)
      intro v5 w5 own5 hg5 _
      have P5:w5.ownsRow w1.heap.size 63 2 v5 (A++[q]).length ((A++[q]).flatMap partC):=by rw[List.length_append,List.flatMap_append,List.flatMap_singleton]; exact own5
      have B5:=hide (((uh HBR).alloc (uh HBR).size _).grown hg5 (by simp; have:=(uh HBR).size; omega) (fun k hk=>(ho.lt k hk).1))
      clear own5 hg5
      clear ho c0 c1
      go_wp2
      go_roundw
      case rel=>exact⟨k+1,by omega,by go_num,by rw[wacc_succ,uh HSTP,uh HAE]; exact P5,uh B5⟩
      case measure=>simp[intOf]; omega
    | false=>
     clear c0 c1
     by_cases hlt:k < ps.length
     ·have hltI:(k:Int) < (ps.length:Int):=by omega
      cases dr with
      | true=>
       have HSTP:Hid (wstep ps k true false q k=[]):=by show _=_; unfold wstep; simp[hlt]
       have P5:wr.ownsRow w1.heap.size 63 2 u12 (wacc ps k true false q k++[]).length ((wacc ps k true false q k++[]).flatMap partC):=by rw[List.append_nil]; exact ho
       go_wp2
       go_roundw
       case rel=>exact⟨k+1,by omega,by go_num,by rw[wacc_succ,uh HSTP]; exact P5,uh HBR⟩
       case measure=>simp[intOf]; omega
      | false=>
       have HSTP:Hid (wstep ps k false false q k=[ps[k]]):=by show _=_; unfold wstep; simp[hlt]
       obtain⟨g,-,⟨cap,e⟩,d0,d1⟩:=uh HPC k hlt wr hb
       injection e with e1 e2 e3
       subst e1; subst e3
       obtain⟨A,hAe⟩ : ∃ A,wacc ps k false false q k=A:=⟨_,rfl⟩
       rw[hAe] at ho hal2
       have HAE:=hide hAe
       clear hAe
       go_wp2_with (at_builtin; refine wpList_append_own _ rfl (.tmp 46) (.tmp 51) 56 rfl w1.heap.size 63 i0 (.agg #[.string ByteArray.empty,.string ByteArray.empty]) 2 32 Tryz.underlying56 hi0 hz0 hz1 hz2 rfl (by decide) _ _ _ rfl (ho.alloc _) ⟨wr.heap.size,0,none⟩ 1 1 (partC ps[k]) rfl rfl (lit2s _ _ _ _) (fun u hu=>by { simp[partC] at hu; rcases hu with rfl | rfl <;> rfl }) (by unfold maxLen; omega) (by omega) (by simp; omega) ?_)
       intro v5 w5 own5 hg5 _
       have P5:w5.ownsRow w1.heap.size 63 2 v5 (A++[ps[k]]).length ((A++[ps[k]]).flatMap partC):=by rw[List.length_append,List.flatMap_append,List.flatMap_singleton]; exact own5
       have B5:=hide (((uh HBR).alloc (uh HBR).size _).grown hg5 (by simp; have:=(uh HBR).size; omega) (fun k hk=>(ho.lt k hk).1))
       clear own5 hg5
       clear ho d0 d1
       go_wp2
       go_roundw
       case rel=>exact⟨k+1,by omega,by go_num,by rw[wacc_succ,uh HSTP,uh HAE]; exact P5,uh B5⟩
       case measure=>simp[intOf]; omega
     ·have hltI:¬ (k:Int) < (ps.length:Int):=by omega
      have HSTP:Hid (wstep ps k dr false q k=[]):=by show _=_; unfold wstep; simp[hlt]
      have P5:wr.ownsRow w1.heap.size 63 2 u12 (wacc ps k dr false q k++[]).length ((wacc ps k dr false q k++[]).flatMap partC):=by rw[List.append_nil]; exact ho
      go_wp2
      go_roundw
      case rel=>exact⟨k+1,by omega,by go_num,by rw[wacc_succ,uh HSTP]; exact P5,uh HBR⟩
      case measure=>simp[intOf]; omega
   ·have tkp:((k:Int) == (p:Int))=false:=by rw[beq_eq_false_iff_ne]; omega
    have tkn:((k:Int) != (p:Int))=true:=by simp; omega
    by_cases hlt:k < ps.length
    ·have hltI:(k:Int) < (ps.length:Int):=by omega
     have HSTP:Hid (wstep ps p dr pu q k=[ps[k]]):=by show _=_; unfold wstep; simp[hlt,hkp]
     obtain⟨g,-,⟨cap,e⟩,d0,d1⟩:=uh HPC k hlt wr hb
     injection e with e1 e2 e3
     subst e1; subst e3
     clear hkp
     obtain⟨A,hAe⟩ : ∃ A,wacc ps p dr pu q k=A:=⟨_,rfl⟩
     rw[hAe] at ho hal2
     have HAE:=hide hAe
     clear hAe
     go_wp2_with (at_builtin; refine wpList_append_own _ rfl (.tmp 46) (.tmp 51) 56 rfl w1.heap.size 63 i0 (.agg #[.string ByteArray.empty,.string ByteArray.empty]) 2 32 Tryz.underlying56 hi0 hz0 hz1 hz2 rfl (by decide) _ _ _ rfl (ho.alloc _) ⟨wr.heap.size,0,none⟩ 1 1 (partC ps[k]) rfl rfl (lit2s _ _ _ _) (fun u hu=>by { simp[partC] at hu; rcases hu with rfl | rfl <;> rfl }) (by unfold maxLen; omega) (by omega) (by simp; omega) ?_)
     intro v5 w5 own5 hg5 _
     have P5:w5.ownsRow w1.heap.size 63 2 v5 (A++[ps[k]]).length ((A++[ps[k]]).flatMap partC):=by rw[List.length_append,List.flatMap_append,List.flatMap_singleton]; exact own5
     have B5:=hide (((uh HBR).alloc (uh HBR).size _).grown hg5 (by simp; have:=(uh HBR).size; omega) (fun k hk=>(ho.lt k hk).1))
     clear own5 hg5
     clear ho d0 d1
     go_wp2
     go_roundw
     case rel=>exact⟨k+1,by omega,by go_num,by rw[wacc_succ,uh HSTP,uh HAE]; exact P5,uh B5⟩
     case measure=>simp[intOf]; omega
    ·have hltI:¬ (k:Int) < (ps.length:Int):=by omega
     have HSTP:Hid (wstep ps p dr pu q k=[]):=by show _=_; unfold wstep; simp[hlt,hkp]
     have P5:wr.ownsRow w1.heap.size 63 2 u12 (wacc ps p dr pu q k++[]).length ((wacc ps p dr pu q k++[]).flatMap partC):=by rw[List.append_nil]; exact ho
     clear hkp
     go_wp2
     go_roundw
     case rel=>exact⟨k+1,by omega,by go_num,by rw[wacc_succ,uh HSTP]; exact P5,uh HBR⟩
     case measure=>simp[intOf]; omega
  ·have hleI:¬ (k:Int)≤(ps.length:Int):=by omega
   have hkn:k=ps.length+1:=by omega
   subst hkn
   have HBF:=hide (below_next (uh HB1) (uh HBR))
   by_cases h5:K=5
   ·have HM:=hide (uh HMA u12 _ wr ho)
    have HE:=hide (uh HEA h5)
    rw[h5] at hfk
    have hfk':(((T[0]).toNat:Int) == 91)=true:=hfk
    clear HMA HSO HMO HEA HEO hfk h5 ho hb
    go_wp2_with fail
    refine (uh HM).mono ?_
    rintro e w4 ⟨rfl,b4⟩
    have HB4:=hide (below_next (uh HBF) b4)
    clear HM b4
    go_wp2
    go_ret
    exact⟨by rw[uh HE]; rfl,uh HB4⟩
   ·have HS:=hide (uh HSO u12 _ wr ho)
    have HE:=hide (uh HEO h5)
    have hfk':(((T[0]).toNat:Int) == 91)=false:=by rw[hfk]; simp[h5]
    clear HMA HSO HEA HEO hfk h5 ho hb
    go_wp2_with fail
    refine (uh HS).mono ?_
    rintro e w4 ⟨r4,rfl,p4,b4⟩
    have HM:=hide (uh HMO r4 _ w4 p4)
    have HB4:=hide (below_next (uh HBF) b4)
    clear HS HMO p4 b4
    go_wp2_with fail
    refine (uh HM).mono ?_
    rintro e w5 ⟨rfl,b5⟩
    have HB5:=hide (below_next (uh HB4) b5)
    clear HM b5
    go_wp2
    go_ret
    exact⟨by rw[uh HE]; rfl,uh HB5⟩
end Go.Proofs.YtocnekbedcnmgaaGreatDoor
