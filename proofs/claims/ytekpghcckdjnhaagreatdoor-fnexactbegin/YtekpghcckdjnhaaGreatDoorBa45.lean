import Derived.Shelf.SlMaps.Clone
import Derived.Test.YtekpghcckdjnhaaGreatDoorBa44
import Derived.Test.YtekpghcckdjnhaaGreatDoorBa43
set_option maxRecDepth 100000
set_option maxHeartbeats 8000000
namespace Go.Proofs.YtekpghcckdjnhaaGreatDoor
open Go.RowKit Go.Proofs.Tryz
theorem zhC (b n:Nat) (D:DataW Value) (w:World) (hown:w.ownsMap prog 9 RH b n D) :
  Calls prog 270 #[.map (some b)] w fun e w'=>e = .returned (.map (some w.heap.size))/\w'.ownsMap prog 9 RH w.heap.size n D/\Below w.heap.size w w':=by
 have hlt:=hown.lt
 obtain⟨es,clock,hb,F,hs,hD⟩:=hown
 have hq:=fun w=>run_eql_map_nil_sl (P:=prog) w 226 _ _ (some b) underlying226
 have HE:Hid ((w.alloc (.map es clock)).ownsMap prog 9 RH w.heap.size n D/\Below w.heap.size w (w.alloc (.map es clock))):=⟨⟨es,clock,(MapKept.heap_alloc w _).1,F,hs,hD⟩,(yH _ w).alloc (ye _) _⟩
 clear F hs hD
 go_enter func270,ntmps270
 go_wp2
 rw[run_callFunc_extern func284 (by kernel_rfl) (by kernel_rfl) (by kernel_rfl) (e:=Extern.MapsClone.clone) (by kernel_rfl),run_maps_clone_sl w 226 hb]
 simp only[Result.andThen]
 rw[Oper.upon_value]
 go_wp2
 rw[run_typeAssert_map_sl _ 226 _ _ _ _ underlying226]
 simp only[Result.andThen]
 rw[Oper.upon_value]
 go_wp2
 go_ret
 exact⟨rfl,(uh HE).1,(uh HE).2⟩
theorem ztb {w:World} {b n:Nat} {xs:List (List UInt8×Value)} (h:w.ownsMap prog 9 RH b n (zao xs)) (hn:n<=10000000) (key:List UInt8) (hk:key.length<=1048576) (v:Value) :
  ∃ w',(Instr.mapUpdate 226 (.map (some b)) (.string (zac key)) v).run prog w = .ok () w'/\w'.ownsMap prog 9 RH b (n+1) (zao (xs++[(key,v)]))/\w.grownBy w' (some b):=by
 obtain⟨w',h1,h2,h3⟩:=h.update (Maps.string_keyed underlying9) underlying226 (by unfold maxLen; omega) (zqE key hk) (show RH v=some (.held v,[]) from rfl)
 exact⟨w',h1,by rw[zbh]; exact h2,h3⟩
def zwy (w:World) (xs:List (List UInt8×Value)) (e:Ending) (w':World) : Prop:=∃ ob b n,e = .returned (.pointer (some ⟨ob,0,none⟩))/\Below w.heap.size w w'/\ob < w'.heap.size/\b < w'.heap.size/\w'.heap[ob]?=some (.cells #[.map (some b)] 228 (0,0))/\w'.ownsMap prog 9 RH b n (zao xs)
theorem ziS (ob b n:Nat) (xs:List (List UInt8×Value)) (t:List UInt8) (v:Value) (w:World) (hob:w.heap[ob]?=some (.cells #[.map (some b)] 228 (0,0))) (hown:w.ownsMap prog 9 RH b n (zao xs)) (hn:n<=10000000) (ht:t.length<=1048576) :
  Calls prog 269 #[.pointer (some ⟨ob,0,none⟩),.string (zac t),v] w (zwy w (xs++[(t,v)])):=by
 have HM:=zab (zhC b n _ w hown)
 have c0:w.cell? ⟨ob,0,none⟩=some (.map (some b)):=yF hob 0
 clear hob hown
 go_enter func269,ntmps269
 go_wp2_with fail
 refine (uh HM).mono ?_
 rintro e w1 ⟨rfl,o1,b1⟩
 have hg1:=o1.lt
 obtain⟨w2,hrun,o2,g2⟩:=ztb o1 hn t ht v
 have hb2:Below w.heap.size w w2:=b1.grown g2 b1.size (fun k hk=>by injection hk with hk; omega)
 have hz2:=g2.size
 generalize hB:w.heap.size=B at *
 have HBE:=zab hB
 clear hB
 have HO2:=zab o2
 have HB2:=zab hb2
 clear HM o1 b1 o2 g2 hb2 c0
 generalize zac t=st at *
 go_wp2
 go_ret
 refine⟨_,_,_,rfl,(by rw[uh HBE]; exact (uh HB2).alloc (by omega) _),?_,?_,yG _ _,(uh HO2).alloc _⟩
 all_goals simp
 all_goals omega
theorem zft (m:JM) : zcu m=m.toL.map (·.1):=zaB m
theorem zk0 (t:List UInt8) (u:JV) : ∀ m:JM,JM.ofL (m.toL++[(t,u)])=m.app (.cons t u .nil)
 | .nil=>rfl
 | .cons k v r=>by
  show JM.ofL ((k,v) :: (r.toL++[(t,u)])) = .cons k v (r.app (.cons t u .nil))
  rw[JM.ofL,zk0 t u r]
theorem zk1 {w w1:World} {m:JM} {xs:List (List UInt8×Value)} {t:List UInt8} {u:JV} {y:Value} {ob b n:Nat} (hb:Below w.heap.size w w1) (hm:zcm w (fun k=>k < w.heap.size) m xs) (hd:(m.toL.map (·.1)).Nodup) (hu:Rep w (fun k=>k < w.heap.size) u y)
  (h1:ob < w1.heap.size) (h2:b < w1.heap.size) (h3:w1.heap[ob]?=some (.cells #[.map (some b)] 228 (0,0))) (h4:w1.ownsMap prog 9 RH b n (zao (xs++[(t,y)]))) :
  TrA w1 (if (zal (.obj m) t).isSome then zby (.obj m) t u else .obj (JM.ofL (m.toL++[(t,u)]))) (.iface 225 (.pointer (some ⟨ob,0,none⟩))):=by
 have hk:xs.map (·.1)=m.toL.map (·.1):=by rw[(zcr m xs hm).1,zft]
 have hdx:(xs.map (·.1)).Nodup:=by rw[hk]; exact hd
 have hm1:zcm w1 (fun k=>k < w1.heap.size) m xs:=zcm.keep (fun k hk=>hb.block k hk) (fun _ hk=>yE hk hb.size) _ _ hm
 have hu1:Rep w1 (fun k=>k < w1.heap.size) u y:=Rep.keep (fun k hk=>hb.block k hk) (fun _ hk=>yE hk hb.size) _ _ hu
 have hmem:(zal (.obj m) t).isSome=true↔t∈xs.map (·.1):=by
  rw[hk,zbe,Option.isSome_map,List.find?_isSome]
  constructor
  ·rintro⟨q,hq,e⟩; exact yO.2 ⟨q,hq,by simpa using e⟩
  ·intro h; obtain⟨q,hq,e⟩:=yO.1 h; exact⟨q,hq,by simpa using e⟩
 by_cases hc:(zal (.obj m) t).isSome=true
 ·rw[yg hc]
  show Rep w1 _ (.obj (JM.ofL (m.toL.map fun q=>if q.1=t then (q.1,u) else q))) _
  rw[zo0 hdx (hmem.1 hc)] at h4
  rw[Rep]
  refine⟨ob,b,_,_,rfl,h1,h2,h3,zdF h4,ye _,?_⟩
  refine zjI t hu1 _ _ ?_
  rw[JM.ofL_toL]
  exact hm1
 ·rw[yf hc]
  show Rep w1 _ (.obj (JM.ofL (m.toL++[(t,u)]))) _
  rw[Rep]
  refine⟨ob,b,_,_,rfl,h1,h2,h3,zdF h4,ye _,?_⟩
  rw[zk0]
  refine zcm.app _ _ _ _ hm1 ?_
  rw[zcm]
  exact⟨y,[],rfl,hu1,by rw[zcm]⟩
theorem zgd {w:World} {S:Nat->Prop} {l:JL} {xs:List Value} (h:zbS w S l xs) : ∀ u∈xs,u.oneCell'=true:=fun u hu=>by
 obtain⟨j,hj,rfl⟩:=List.getElem_of_mem hu
 obtain⟨h1,h2⟩:=zbJ l xs h
 obtain⟨t,p,e⟩:=za8 (h2 j hj (by omega))
 rw[e]; rfl
theorem zqU {w w1:World} {L:List JV} {xs:List Value} {r:Value} {n:Nat} (hb:Below w.heap.size w w1) (ho:w1.ownsRow w.heap.size 66 1 r n xs) (hn:n=xs.length) (hl:zbS w (fun k=>k < w.heap.size) (JL.ofL L) xs) :
  TrA (w1.alloc (.cells #[r] 198)) (.arr (JL.ofL L)) (.iface 195 (.pointer (some ⟨w1.heap.size,0,none⟩))):=by
 subst hn
 have hA:=zag w1 (.cells #[r] 198)
 have hz:=hA.size
 have hz':w1.heap.size < (w1.alloc (.cells #[r] 198)).heap.size:=by simp
 show Rep _ _ _ _
 rw[Rep]
 refine⟨w1.heap.size,r,xs,rfl,hz',yG _ _,⟨zaC (zaj ho hA) (yt _),fun g hg=>?_⟩,?_⟩
 ·have:=(ho.lt g hg).2
  omega
 ·have h2:=zaa hb hA
  exact zbS.keep (fun k hk=>h2.block k hk) (fun _ hk=>yE hk h2.size) _ _ hl
theorem zfu {l:JL} {N:Nat} (h:(ct (.arr l)).length<=N) : l.toL.length<=N:=by
 have:=zdf l
 have h2:l.toL.length<=hold l.toL.length:=by unfold hold; omega
 have:=Nat.le_add_right (hold l.toL.length) ((l.toL.map fun v=>(ct v).length).sum)
 omega
theorem zk2 {m:JM} {N:Nat} (h:(ct (.obj m)).length<=N) : m.toL.length<=N:=by
 have:=zbd m
 have h2:m.toL.length<=hold m.toL.length:=by unfold hold; omega
 have:=Nat.le_add_right (hold m.toL.length) ((m.toL.map zdT).sum)
 omega
theorem zin (v u c:JV) (t:List UInt8) (w:World) (ty ty':TypeId) (p p':Value) (hv:GdT v) (hc:zal v t=some c) (ht:t.length<=1048576) (hl:(ct v).length<=1000000) (hr:TrA w v (.iface ty p)) (hu:TrA w u (.iface ty' p')) :
  Calls prog 245 #[.iface ty p,.string (zac t),.iface ty' p'] w fun e w'=>Below w.heap.size w w'/\∃ t' q,e = .returned (.iface t' q)/\TrA w' (zby v t u) (.iface t' q):=by
 cases v with
 | arr l=>
  have hr':=hr
  unfold TrA at hr'
  rw[Rep] at hr'
  obtain⟨ab,sv,xs,h,hSab,hab,hrow,hrl⟩:=hr'
  injection h with h1 h2; subst h1; subst h2
  obtain⟨a,g,cap,rfl,hadr,hcell⟩:=zbD hrow
  obtain⟨hxl,_⟩:=zbJ l xs hrl
  rw[zay] at hc
  obtain⟨i,hx,hci⟩:=Option.bind_eq_some_iff.1 hc
  have hil:i < xs.length:=by rw[hxl]; exact (List.getElem?_eq_some_iff.1 hci).1
  obtain⟨rfl,hSg⟩:=hadr (by omega)
  have hcnt:=zfu hl
  have hc0:w.cell? ⟨ab,0,none⟩=some (.slice (some ⟨g,0,none⟩) xs.length cap):=by rw[yF hab]; rfl
  have t1:∀ w:World,(Instr.typeAssert (.iface 195 (.pointer (some ⟨ab,0,none⟩))) 66 195 true).run prog w = .ok (.tuple #[.pointer (some ⟨ab,0,none⟩),.bool true]) w:=fun _=>by kernel_rfl
  have HI:=zck (zac t) w (by rw[zaf]; exact ht)
  rw[zad] at HI
  have e0:zlU t = .tuple #[.int .i64 (i:Int),.bool true]:=by unfold zlU; rw[hx]
  rw[e0] at HI
  have HI':=zab HI
  have HC:=zab (zmu ⟨g,0,none⟩ g 0 cap xs w ⟨fun _=>rfl,fun j hj=>by rw[Nat.zero_add]; exact hcell j hj⟩ (zgd hrl) (by omega))
  have HFIN:Hid (∀ (w1:World) (r:Value),Below w.heap.size w w1->w1.ownsRow w.heap.size 66 1 r xs.length (xs.set i (.iface ty' p'))->TrA (w1.alloc (.cells #[r] 198)) (zby (.arr l) t u) (.iface 195 (.pointer (some ⟨w1.heap.size,0,none⟩)))):=fun w1 r hb ho=>by
   have e:zby (.arr l) t u = .arr (JL.ofL (l.toL.set i u)):=by simp only[zby,hx]
   rw[e]
   exact zqU hb ho (by simp) (zs9 (by omega) (by rw[JL.ofL_toL]; exact hrl) hu)
  have hiI:(i:Int) < (xs.length:Int):=by omega
  rw[← hxl] at hcnt
  clear hr hu hx hc hci hrow hcell hrl HI e0 hv hl hab hadr hxl
  generalize zac t=st at *
  go_enter func245,ntmps245
  go_wp2_with fail
  refine (uh HI').mono ?_
  rintro e w1 ⟨rfl,rfl⟩
  clear HI'
  go_wp2_with fail
  refine (uh HC).mono ?_
  rintro e w1 ⟨r,rfl,o1,b1⟩
  obtain⟨g',cap',rfl⟩ : ∃ g' cap',r = .slice (some ⟨g',0,none⟩) xs.length cap':=by
   rcases o1.2 with ⟨_,h0⟩ | ⟨g',cap',cur,hv,_⟩
   ·omega
   ·exact⟨g',cap',hv⟩
  have hst:=o1.stored i (.iface ty' p')
  have hfz:=o1.frozenAt i
  have hge:=(o1.lt g' rfl)
  have hcl:∃ x,w1.cell? ⟨g',i,none⟩=some x:=⟨_,by
   have:=World.ownsRow.cells o1 rfl i xs[i] (yx hil)
   rw[Addr.add_lit,Nat.zero_add] at this
   exact this⟩
  obtain⟨x0,hcx⟩:=hcl
  have hb2:Below w.heap.size w (w1.setCell ⟨g',i,none⟩ (.iface ty' p')):=b1.grown hst.2 b1.size (fun k hk=>by injection hk with hk; omega)
  have HB2:=zab hb2
  have HO2:=zab hst.1
  clear HC o1 b1 hst hb2
  go_wp2
  go_ret
  exact⟨(uh HB2).alloc (by have:=(uh HB2).size; omega) _,_,_,rfl,(by have h:=uh HFIN _ _ (uh HB2) (uh HO2); rw[show (w1.setCell ⟨g',i,none⟩ (Value.iface ty' p')).heap.size=w1.heap.size by simp] at h; exact h)⟩
 | obj m=>
  have hr':=hr
  unfold TrA at hr'
  rw[Rep] at hr'
  obtain⟨ob,mb,nn,xs,h,hSob,hSmb,hob,hown,hnn,hrm⟩:=hr'
  injection h with h1 h2; subst h1; subst h2
  have hd:=((zbi m).1 hv).1
  have hxl:xs.length=m.toL.length:=by have:=congrArg List.length (zcr m xs hrm).1; rw[zft] at this; simpa using this
  have hcnt:=zk2 hl
  have t1:∀ w:World,(Instr.typeAssert (.iface 225 (.pointer (some ⟨ob,0,none⟩))) 66 195 true).run prog w = .ok (.tuple #[.pointer none,.bool false]) w:=fun _=>by kernel_rfl
  have t2:∀ w:World,(Instr.typeAssert (.iface 225 (.pointer (some ⟨ob,0,none⟩))) 66 225 true).run prog w = .ok (.tuple #[.pointer (some ⟨ob,0,none⟩),.bool true]) w:=fun _=>by kernel_rfl
  have HW:=zab (ziS ob mb nn xs t (.iface ty' p') w hob hown (by omega) ht)
  have HFIN:Hid (∀ (w1:World) (ob' b n:Nat),Below w.heap.size w w1->ob' < w1.heap.size->b < w1.heap.size->w1.heap[ob']?=some (.cells #[.map (some b)] 228 (0,0))->w1.ownsMap prog 9 RH b n (zao (xs++[(t,.iface ty' p')]))->TrA w1 (zby (.obj m) t u) (.iface 225 (.pointer (some ⟨ob',0,none⟩)))):=fun w1 ob' b n hb a1 a2 a3 a4=>by
   have:=zk1 hb hrm hd hu a1 a2 a3 a4
   rw[hc] at this
   exact this
  clear hr hu hc hown hrm hv hl hob hd hxl
  generalize zac t=st at *
  go_enter func245,ntmps245
  go_wp2_with fail
  refine (uh HW).mono ?_
  rintro e w1 ⟨ob',b',n',rfl,b1,a1,a2,a3,a4⟩
  have HF:=zab (uh HFIN w1 ob' b' n' b1 a1 a2 a3 a4)
  have HB:=zab b1
  clear HW b1 a1 a2 a3 a4 HFIN
  go_wp2
  go_ret
  exact⟨uh HB,_,_,rfl,uh HF⟩
 | _=>cases hc
def Ent (fid:FuncId) : Prop:=∀ (args:Array Value) (w:World),Sem.run prog (callFunc fid args) w = .ok (.enter fid args) w
theorem zvo:Ent 241:=fun args w=>by simp[callFunc,go_sem,func241,Result.andThen]; rfl
theorem zvp:Ent 243:=fun args w=>by simp[callFunc,go_sem,func243,Result.andThen]; rfl
theorem zvq:Ent 218:=fun args w=>by simp[callFunc,go_sem,func218,Result.andThen]; rfl
def zxP (w0:World) (fid:FuncId) (caps:Array Value) (f:JV->Option JV) : Prop:=
 ∀ (wx:World) (h:JV) (ty:TypeId) (p:Value),Below w0.heap.size w0 wx->GdT h->(ct h).length<=500000->TrA wx h (.iface ty p) ->
  Calls prog fid (#[.iface ty p]++caps) wx (zbI wx (zc4 3 (f h)))
theorem zcx (fid:FuncId) (hent:Ent fid) (caps:Array Value) (f:JV->Option JV) : ∀ (ts:List (List UInt8)) (v:JV) (a:Option Addr) (g off cap:Nat) (w:World) (ty:TypeId) (p:Value),zxP w fid caps f->GdT v->(ct v).length<=500000->TrA w v (.iface ty p)->SS w a g off (ts.map baT)->ts.length<=cap->cap<=9223372036854775807->(∀ t∈ts,t.length<=1048576) ->
  Calls prog 217 #[.iface ty p,.slice a ts.length cap,.func (Fn.func fid) #[] caps] w (zbI w (zc4 3 (zd2 f v ts)))
 | [],v,a,g,off,cap,w,ty,p,hF,hv,hl,hr,hs,hcap,hcap2,ht=>by
  have HF:=zab (hF w v ty p (yH _ _) hv hl hr)
  rw[zsz]
  have hent':∀ (w:World),Sem.run prog (callFunc fid (#[.iface ty p]++caps)) w = .ok (.enter fid (#[.iface ty p]++caps)) w:=fun w=>hent _ w
  clear hF hr hs hv hent
  go_enter func217,ntmps217
  go_wp2_with fail
  refine (uh HF).mono ?_
  rintro e w1 ⟨b1,⟨c,ev,h1,rfl,h2⟩ | ⟨u,t',q,h1,rfl,h2⟩⟩
  ·have HE:Hid (zbI w (zc4 3 (f v)) (.returned (.tuple #[.nilIface,ev])) w1):=⟨b1,.inl ⟨c,ev,h1,rfl,h2⟩⟩
   obtain⟨fb,rfl,_⟩:=h2
   clear HF b1 h1
   go_wp2
   go_ret2
   exact uh HE
  ·have HE:Hid (zbI w (zc4 3 (f v)) (.returned (.tuple #[.iface t' q,.nilIface])) w1):=⟨b1,.inr ⟨u,t',q,h1,rfl,h2⟩⟩
   clear HF b1 h1 h2
   go_wp2
   go_ret2
   exact uh HE
 | t :: ts,v,a,g,off,cap,w,ty,p,hF,hv,hl,hr,hs,hcap,hcap2,ht=>by
  have ht0:t.length<=1048576:=ht t (by simp)
  obtain rfl:=hs.ad (by simp)
  have hc0:w.cell? ⟨g,off,none⟩=some (.string (zac t)):=by
   have:=hs.cell 0 (by simp)
   rw[Nat.add_zero] at this
   rw[this]
   simp[baT,zac]
  have hgl:g < w.heap.size:=yJ _ _ hc0
  have HTL:Hid (∀ a',(0 < ts.length->a'=some ⟨g,off+1,none⟩)->SS w a' g (off+1) (ts.map baT)):=fun a' ha=>⟨fun h=>ha (by simpa using h),fun j hj=>by
   have:=hs.cell (j+1) (by simpa using hj)
   rw[show off+(j+1)=off+1+j by omega] at this
   rw[this]
   simp⟩
  have HC:=zab (zbE v hv.tw t ht0 ty p w _ hr)
  have hlenI:¬ ((ts.length:Int)+1=0):=by omega
  simp only[yn] at hcap ⊢
  cases hc:zal v t with
  | none=>
   have HNO:Hid (zd2 f v (t :: ts)=none):=zu4 hc
   rw[hc] at HC
   clear hF hv hr hs hent HTL ht hc
   generalize zac t=st at *
   go_enter func217,ntmps217
   go_wp2_with fail
   refine (uh HC).mono ?_
   rintro e w1 ⟨rfl,⟨x,rfl,-⟩ | ⟨x,u',rfl,h0,-⟩⟩
   ·clear HC
    go_wp2
    go_ret2
    exact⟨zag _ _,.inl ⟨3,_,by rw[uh HNO]; rfl,rfl,_,rfl,yG _ _⟩⟩
   ·cases h0
  | some c=>
   have hlc:(ct c).length<=500000:=by have:=(zbG hc hv.ok hv.tw).2.2.1; omega
   have HR:Hid (∀ ty' p' a' cap',TrA w c (.iface ty' p')->(0 < ts.length->a'=some ⟨g,off+1,none⟩)->ts.length<=cap'->cap'<=9223372036854775807->Calls prog 217 #[.iface ty' p',.slice a' ts.length cap',.func (Fn.func fid) #[] caps] w (zbI w (zc4 3 (zd2 f c ts)))):=fun ty' p' a' cap' hx h1 h2 h3=>
    zcx fid hent caps f ts c a' g (off+1) cap' w ty' p' hF (hv.child hc) hlc hx (uh HTL _ h1) h2 h3 (fun x hx=>ht x (by simp[hx]))
   have HW:Hid (∀ (w2:World) u t' q,Below w.heap.size w w2->TrA w2 u (.iface t' q)->Calls prog 245 #[.iface ty p,.string (zac t),.iface t' q] w2 fun e w'=>Below w2.heap.size w2 w'/\∃ t' q,e = .returned (.iface t' q)/\TrA w' (zby v t u) (.iface t' q)):=fun w2 u t' q hb hx=>
    zin v u c t w2 ty t' p q hv hc ht0 (by omega) (hr.next hb) hx
   have HCON:Hid (zd2 f v (t :: ts)=(zd2 f c ts).map (zby v t)):=zsA hc
   have hcapI:(ts.length:Int)+1<=(cap:Int):=by omega
   have HCX:Hid (∀ w2,Below w.heap.size w w2->w2.cell? ⟨g,off,none⟩=some (.string (zac t))):=fun w2 hb=>(hb.cell (p:=⟨g,off,none⟩) hgl).trans hc0
   rw[hc] at HC
   clear hF hv hr hs hent HTL ht hc hl hlc
   generalize zac t=st at *
   go_enter func217,ntmps217
   go_wp2_with fail
   refine (uh HC).mono ?_
   rintro e w1 ⟨rfl,⟨x,rfl,h0⟩ | ⟨x,u',rfl,h0,hx⟩⟩
   ·cases h0
   ·injection h0 with h0
    subst h0
    obtain⟨ty',p',rfl⟩:=za8 hx
    have HR1:=zab (fun a' cap'=>uh HR ty' p' a' cap' hx)
    clear HC HR hx
    go_wp2_with fail
    all_goals refine (uh HR1 _ _ (fun _=>by first | rfl | (exfalso; omega)) (by omega) (by omega)).mono ?_
    all_goals
     rintro e w2 ⟨b2,⟨k,ev,h1,rfl,h2⟩ | ⟨u,t',q,h1,rfl,h2⟩⟩
     ·have hX:zc4 3 (zd2 f v (t :: ts)) = .inl k:=by
       rw[uh HCON]
       cases hq:zd2 f c ts with
       | none=>rw[hq] at h1; exact h1
       | some y=>rw[hq] at h1; cases h1
      have HE:Hid (zbI w (zc4 3 (zd2 f v (t :: ts))) (.returned (.tuple #[.nilIface,ev])) w2):=⟨b2,.inl ⟨k,ev,hX,rfl,h2⟩⟩
      obtain⟨fb,rfl,-⟩:=h2
      clear HR1 HW HCON HCX b2 h1 hX
      go_wp2
      go_ret2
      exact uh HE
     ·have hq:=zbz h1
      have HW1:=zab (uh HW w2 u t' q b2 h2)
      have hc2:=uh HCX w2 b2
      have HE:Hid (zd2 f v (t :: ts)=some (zby v t u)):=by show _=_; rw[uh HCON,hq]; rfl
      have HB2:=zab b2
      clear HR1 HW HCON HCX b2 h1 h2 hq hc0
      go_wp2_with fail
      refine (uh HW1).mono ?_
      rintro e w3 ⟨b3,t3,q3,rfl,h3⟩
      have HE3:Hid (zbI w (zc4 3 (zd2 f v (t :: ts))) (.returned (.tuple #[.iface t3 q3,.nilIface])) w3):=⟨zaa (uh HB2) b3,.inr ⟨_,t3,q3,by rw[uh HE]; rfl,rfl,h3⟩⟩
      clear HW1 HE HB2 b3 h3 hc2
      go_wp2
      go_ret2
      exact uh HE3
theorem zqV {w:World} {S:Nat->Prop} {a:Option Addr} {n cap:Nat} {xs:List Value} (h:zkw w S (.slice a n cap) xs) : xs.length<=cap/\cap<=9223372036854775807:=by
 rcases h.1.2 with ⟨hv,h0⟩ | ⟨g,cap',cur,hv,_,_,h1,h2,_⟩
 ·injection hv with _ _ h3; subst h3; exact⟨by omega,by omega⟩
 ·injection hv with _ _ h3; subst h3; exact⟨h1,by unfold maxLen at h2; omega⟩
theorem zhD {w:World} {B:Nat} {r:Value} {n:Nat} {xs:List Value} (h:w.ownsRow B 66 1 r n xs) : ∃ a c,r = .slice a n c:=by
 rcases h.2 with ⟨hv,h0⟩ | ⟨g,cap',cur,hv,_⟩
 ·exact⟨none,0,by rw[hv,h0]⟩
 ·exact⟨_,_,hv⟩
theorem zk3 {w:World} {b n:Nat} {xs:List (List UInt8×Value)} (h:w.ownsMap prog 9 RH b n (zao xs)) (hd:(xs.map (·.1)).Nodup) (key:List UInt8) (hk:key.length<=1048576) (ty:TypeId) :
  ∃ w',(Builtin.delete_ #[226,9] ty #[.map (some b),.string (zac key)]).run prog w = .ok (.tuple #[]) w'/\w'.ownsMap prog 9 RH b n (zao (xs.filter fun q=>!(q.1 == key)))/\w.grownBy w' (some b):=by
 obtain⟨w',h1,h2,h3⟩:=h.drop (Maps.string_keyed underlying9) underlying226 (zqE key hk) ty
 exact⟨w',h1,by rw[← zo1 hd]; exact h2,h3.grown⟩
theorem zk4 (v:JV) (t:List UInt8) (w:World) (ty:TypeId) (p:Value) (hv:GdT v) (ht:t.length<=1048576) (hl:(ct v).length<=1000000) (hr:TrA w v (.iface ty p)) :
  Calls prog 244 #[.iface ty p,.string (zac t)] w (zbI w (zc4 3 (zdc v t))):=by
 have HC:=zab (zbE v hv.tw t ht ty p w _ hr)
 cases hc:zal v t with
 | none=>
  have HNO:Hid (zdc v t=none):=by show _=_; unfold zdc; rw[hc]; rfl
  rw[hc] at HC
  clear hr hv hc hl
  generalize zac t=st at *
  go_enter func244,ntmps244
  go_wp2_with fail
  refine (uh HC).mono ?_
  rintro e w1 ⟨rfl,⟨x,rfl,-⟩ | ⟨x,u',rfl,h0,-⟩⟩
  ·clear HC
   go_wp2
   go_ret2
   exact⟨zag _ _,.inl ⟨3,_,by rw[uh HNO]; rfl,rfl,_,rfl,yG _ _⟩⟩
  ·cases h0
 | some c=>
  have HYES:Hid (zdc v t=some (za6 v t)):=by show _=_; unfold zdc; rw[hc]; rfl
  rw[hc] at HC
  cases v with
  | obj m=>
   have hr':=hr
   unfold TrA at hr'
   rw[Rep] at hr'
   obtain⟨ob,mb,nn,xs,h,hSob,hSmb,hob,hown,hnn,hrm⟩:=hr'
   injection h with h1 h2; subst h1; subst h2
   have hd:=((zbi m).1 hv).1
   have hdx:(xs.map (·.1)).Nodup:=by rw[(zcr m xs hrm).1,zft]; exact hd
   have t1:∀ w:World,(Instr.typeAssert (.iface 225 (.pointer (some ⟨ob,0,none⟩))) 66 195 true).run prog w = .ok (.tuple #[.pointer none,.bool false]) w:=fun _=>by kernel_rfl
   have t2:∀ w:World,(Instr.typeAssert (.iface 225 (.pointer (some ⟨ob,0,none⟩))) 66 225 true).run prog w = .ok (.tuple #[.pointer (some ⟨ob,0,none⟩),.bool true]) w:=fun _=>by kernel_rfl
   have HW:=zab (zhC mb nn _ w hown)
   have c0:w.cell? ⟨ob,0,none⟩=some (.map (some mb)):=yF hob 0
   have HFIN:Hid (∀ (w1:World) (b n:Nat),Below w.heap.size w w1->b < w1.heap.size->w1.ownsMap prog 9 RH b n (zao (xs.filter fun q=>!(q.1 == t)))->TrA (w1.alloc (.cells #[.map (some b)] 228)) (za6 (.obj m) t) (.iface 225 (.pointer (some ⟨w1.heap.size,0,none⟩)))):=fun w1 b n hb hlt ho=>by
    have hA:=zag w1 (.cells #[.map (some b)] 228)
    have hz:(w1.alloc (.cells #[.map (some b)] 228)).heap.size=w1.heap.size+1:=by simp
    have h2:=zaa hb hA
    show Rep _ _ (.obj (JM.ofL (m.toL.filter fun q=>!(q.1 == t)))) _
    rw[Rep]
    refine⟨w1.heap.size,b,_,_,rfl,by omega,by omega,yG _ _,(zdF ho).alloc _,ye _,zhB t _ _ ?_⟩
    rw[JM.ofL_toL]
    exact zcm.keep (fun k hk=>h2.block k hk) (fun _ hk=>yE hk h2.size) _ _ hrm
   have HDX:=zab hdx
   clear hr hc hown hrm hv hl hob hd hdx
   go_enter func244,ntmps244
   go_wp2_with fail
   refine (uh HC).mono ?_
   rintro e w1 ⟨rfl,⟨x,rfl,h0⟩ | ⟨x,u',rfl,h0,-⟩⟩
   ·cases h0
   clear HC h0
   go_wp2_with fail
   refine (uh HW).mono ?_
   rintro e w1 ⟨rfl,o1,b1⟩
   have hg1:=o1.lt
   obtain⟨w2,hrun,o2,g2⟩:=zk3 o1 (uh HDX) t ht 0
   have hb2:Below w.heap.size w w2:=b1.grown g2 b1.size (fun k hk=>by injection hk with hk; omega)
   have hz2:=g2.size
   have HF:=zab (uh HFIN w2 _ _ hb2 (by omega) o2)
   have HB:=zab hb2
   clear HW o1 b1 o2 g2 hb2 HFIN
   generalize zac t=st at *
   go_wp2
   go_ret2
   exact⟨(uh HB).alloc (by omega) _,.inr ⟨_,_,_,by rw[uh HYES]; rfl,rfl,uh HF⟩⟩
  | arr l=>
   have hr':=hr
   unfold TrA at hr'
   rw[Rep] at hr'
   obtain⟨ab,sv,xs,h,hSab,hab,hrow,hrl⟩:=hr'
   injection h with h1 h2; subst h1; subst h2
   obtain⟨a,g,cap,rfl,hadr,hcell⟩:=zbD hrow
   obtain⟨hxl,_⟩:=zbJ l xs hrl
   rw[zay] at hc
   obtain⟨i,hx,hci⟩:=Option.bind_eq_some_iff.1 hc
   have hil:i < xs.length:=by rw[hxl]; exact (List.getElem?_eq_some_iff.1 hci).1
   obtain⟨rfl,hSg⟩:=hadr (by omega)
   have hcnt:=zfu hl
   have hc0:w.cell? ⟨ab,0,none⟩=some (.slice (some ⟨g,0,none⟩) xs.length cap):=by rw[yF hab]; rfl
   have t1:∀ w:World,(Instr.typeAssert (.iface 195 (.pointer (some ⟨ab,0,none⟩))) 66 195 true).run prog w = .ok (.tuple #[.pointer (some ⟨ab,0,none⟩),.bool true]) w:=fun _=>by kernel_rfl
   have HI:=zck (zac t) w (by rw[zaf]; exact ht)
   rw[zad] at HI
   have e0:zlU t = .tuple #[.int .i64 (i:Int),.bool true]:=by unfold zlU; rw[hx]
   rw[e0] at HI
   have HI':=zab HI
   have hiI:(i:Int) < (xs.length:Int):=by omega
   have hcapn:=zqV hrow
   have hcap1:=hcapn.1
   have hcap2:=hcapn.2
   have hcI:(i:Int)<=(cap:Int):=by omega
   obtain⟨j,hj⟩ : ∃ j,j=i+1:=⟨_,rfl⟩
   have hwj:IntKind.i64.wrap ((i:Int)+1)=(j:Int):=by rw[IntKind.wrap_i64,hj]; omega
   have hjI:(j:Int)<=(xs.length:Int):=by omega
   have hjn:j<=xs.length:=by omega
   have HFIN:Hid (∀ (w1:World) (r:Value) (n:Nat),Below w.heap.size w w1->w1.ownsRow w.heap.size 66 1 r n (xs.take i++xs.drop j)->n=(xs.take i++xs.drop j).length->TrA (w1.alloc (.cells #[r] 198)) (za6 (.arr l) t) (.iface 195 (.pointer (some ⟨w1.heap.size,0,none⟩)))):=fun w1 r n hb ho hn=>by
    have e:za6 (.arr l) t = .arr (JL.ofL (l.toL.eraseIdx i)):=by simp only[za6,hx]
    rw[e]
    refine zqU hb ho hn ?_
    rw[hj]
    exact zoZ i (by rw[JL.ofL_toL]; exact hrl)
   have hcnt':xs.length<=1000000:=by rw[hxl]; exact hcnt
   have HCON:Hid (Calls prog 267 #[.slice (some ⟨w.heap.size,0,none⟩) 2 2] (w.alloc (.cells #[.slice (some ⟨g,0,none⟩) i cap,.slice (if cap=j then some ⟨g,0,none⟩ else some ⟨g,j,none⟩) (xs.length - j) (cap - j)] 153)).drew fun e w'=>∃ r n,e = .returned r/\w'.ownsRow w.heap.size 66 1 r n (xs.take i++xs.drop j)/\n=(xs.take i++xs.drop j).length/\Below w.heap.size w w'):=by
    have hA:=(zag w (.cells #[.slice (some ⟨g,0,none⟩) i cap,.slice (if cap=j then some ⟨g,0,none⟩ else some ⟨g,j,none⟩) (xs.length - j) (cap - j)] 153)).drew
    have kA:=yG w (.cells #[.slice (some ⟨g,0,none⟩) i cap,.slice (if cap=j then some ⟨g,0,none⟩ else some ⟨g,j,none⟩) (xs.length - j) (cap - j)] 153)
    have hl1:(xs.take i).length=i:=by rw[ym]; omega
    have hl2:(xs.drop j).length=xs.length - j:=yu
    have h1c:=zgd hrl
    have hgl:g < w.heap.size:=hSg
    have hVR:VR w (some ⟨g,0,none⟩) g 0 xs:=⟨fun _=>rfl,fun k hk=>by rw[Nat.zero_add]; exact hcell k hk⟩
    have hVA:=hVR.below hA
    refine (zgn [⟨some ⟨g,0,none⟩,g,0,cap,xs.take i⟩,⟨if cap=j then some ⟨g,0,none⟩ else some ⟨g,j,none⟩,g,j,cap - j,xs.drop j⟩] w.heap.size _ ?_ ?_ ?_ (by simp)).mono ?_
    ·intro k hk
     match k,hk with
     | 0,_=>show _=some (Value.slice _ (xs.take i).length _); rw[hl1]; exact yF kA 0
     | 1,_=>show _=some (Value.slice _ (xs.drop j).length _); rw[hl2]; exact yF kA 1
    ·intro s hs
     rcases List.mem_cons.1 hs with rfl | hs
     ·exact⟨⟨fun _=>rfl,fun k hk=>by
       have hk':k < i:=by simpa [hl1] using hk
       rw[hVA.cell k (by omega)]
       simp⟩,fun u hu=>h1c u (List.mem_of_mem_take hu),fun h=>by cases h⟩
     ·obtain rfl:=List.mem_singleton.1 hs
      refine⟨⟨fun h0=>?_,fun k hk=>?_⟩,fun u hu=>h1c u (List.mem_of_mem_drop hu),fun h=>?_⟩
      ·have h0':0 < xs.length - j:=by rw[← hl2]; exact h0
       show (if cap=j then some _ else some _)=_
       rw[yf (by omega)]
      ·have hk':k < xs.length - j:=by rw[← hl2]; exact hk
       have:=hVA.cell (j+k) (by omega)
       rw[Nat.zero_add] at this
       show World.cell? _ ⟨g,j+k,none⟩=some (xs.drop j)[k]
       rw[this]
       simp
      ·have h':(if cap=j then some (⟨g,0,none⟩ : Addr) else some ⟨g,j,none⟩)=none:=h
       split at h' <;> cases h'
    ·simp[zbK]; omega
    ·rintro e w' ⟨r,rfl,o,b⟩
     have ef:zbK [⟨some ⟨g,0,none⟩,g,0,cap,xs.take i⟩,⟨if cap=j then some ⟨g,0,none⟩ else some ⟨g,j,none⟩,g,j,cap - j,xs.drop j⟩]=xs.take i++xs.drop j:=by simp[zbK]
     rw[ef] at o
     exact⟨r,_,rfl,zaC o hA.size,rfl,zaa hA b⟩
   have HJ:=zab hj
   clear hj
   rw[← hxl] at hcnt
   clear hr hx hc hci hrow hcell hrl HI e0 hv hl hab hadr hxl hcapn hcnt'
   generalize zac t=st at *
   go_enter func244,ntmps244
   go_wp2_with fail
   refine (uh HC).mono ?_
   rintro e w1 ⟨rfl,⟨x,rfl,h0⟩ | ⟨x,u',rfl,h0,-⟩⟩
   ·cases h0
   clear HC h0
   go_wp2_with fail
   refine (uh HI').mono ?_
   rintro e w1 ⟨rfl,rfl⟩
   clear HI'
   go_wp2_with fail
   go_region_law (go_simp; refine (uh HCON).mono ?_; rintro e w4 ⟨r,n,rfl,o4,hn4,b4⟩; obtain⟨ra,rc,rfl⟩:=zhD o4; have HF:=zab (uh HFIN w4 _ n b4 o4 hn4); have HB4:=zab b4; clear HFIN HCON o4 hn4 b4)
   all_goals
    generalize (if cap=j then some (⟨g,0,none⟩ : Addr) else some ⟨g,j,none⟩)=ad at *
    go_wp2
    go_ret2
    exact⟨(uh HB4).alloc (uh HB4).size _,.inr ⟨_,_,_,by rw[uh HYES]; rfl,rfl,uh HF⟩⟩
  | _=>cases hc
theorem zqW {w:World} {S:Nat->Prop} {a:Option Addr} {n cap:Nat} {xs:List Value} (h:zkw w S (.slice a n cap) xs) : (a=none/\cap=0/\n=0/\xs=[])∨∃ g,a=some ⟨g,0,none⟩/\S g/\n=xs.length/\VR w (some ⟨g,0,none⟩) g 0 xs:=by
 obtain⟨⟨h1,h2⟩,h3⟩:=h
 rcases h2 with ⟨hv,h0⟩ | ⟨g,cap',cur,hv,hB,hg,r⟩
 ·injection hv with e1 e2 e3
  exact .inl ⟨e1,e3,e2,yN h0⟩
 ·injection hv with e1 e2 e3
  subst e1; subst e2; subst e3
  refine .inr ⟨g,rfl,h3 g rfl,rfl,fun _=>rfl,fun j hj=>?_⟩
  have:=World.ownsRow.cells (w:=w) (base:=0) (e:=66) (size:=1) ⟨h1,.inr ⟨g,cap,cur,rfl,hB,hg,r⟩⟩ rfl j xs[j] (yx hj)
  rwa [Addr.add_lit] at this
theorem VR.take {w:World} {a:Option Addr} {g off:Nat} {xs:List Value} (h:VR w a g off xs) (i:Nat) : VR w a g off (xs.take i):=
 ⟨fun h0=>h.ad (by rw[ym] at h0; omega),fun j hj=>by
  have hj':j < xs.length:=by rw[ym] at hj; omega
  rw[h.cell j hj']
  simp⟩
theorem VR.drop {w:World} {a:Option Addr} {g off:Nat} {xs:List Value} (h:VR w a g off xs) (i:Nat) {a':Option Addr} (ha:i < xs.length->a'=some ⟨g,off+i,none⟩) : VR w a' g (off+i) (xs.drop i):=
 ⟨fun h0=>ha (by rw[yu] at h0; omega),fun j hj=>by
  have hj':i+j < xs.length:=by rw[yu] at hj; omega
  rw[Nat.add_assoc,h.cell (i+j) hj']
  simp⟩
theorem zqX (w:World) (y:Value) (hy:y.oneCell'=true) (us vs:List Value) (a1 a3:Option Addr) (g1 o1 c1 n1 g3 o3 c3 n3:Nat) (hn1:us.length=n1) (hn3:vs.length=n3) (h1:VR w a1 g1 o1 us) (h3:VR w a3 g3 o3 vs) (k1:a1=none->c1=0) (k3:a3=none->c3=0)
  (q1:∀ u∈us,u.oneCell'=true) (q3:∀ u∈vs,u.oneCell'=true) (hl:us.length+vs.length<=900000) :
  Calls prog 267 #[.slice (some ⟨w.heap.size+1,0,none⟩) 3 3] ((w.alloc (.cells #[y] 66)).alloc (.cells #[.slice a1 n1 c1,.slice (some ⟨w.heap.size,0,none⟩) 1 1,.slice a3 n3 c3] 153)).drew fun e w'=>∃ r n,e = .returned r/\w'.ownsRow w.heap.size 66 1 r n (us++y :: vs)/\n=(us++y :: vs).length/\Below w.heap.size w w':=by
 have hA:=zag w (.cells #[y] 66)
 have zA:(w.alloc (.cells #[y] 66)).heap.size=w.heap.size+1:=by simp
 have kA:=yG w (.cells #[y] 66)
 have hB:=(zag (w.alloc (.cells #[y] 66)) (.cells #[.slice a1 n1 c1,.slice (some ⟨w.heap.size,0,none⟩) 1 1,.slice a3 n3 c3] 153)).drew
 have kB:=yG (w.alloc (.cells #[y] 66)) (.cells #[.slice a1 n1 c1,.slice (some ⟨w.heap.size,0,none⟩) 1 1,.slice a3 n3 c3] 153)
 rw[zA] at kB
 have hW:=zaa hA hB
 have kA2:=(hB.block w.heap.size (by omega)).trans kA
 have v1:=h1.below hW
 have v3:=h3.below hW
 refine (zgn [⟨a1,g1,o1,c1,us⟩,⟨some ⟨w.heap.size,0,none⟩,w.heap.size,0,1,[y]⟩,⟨a3,g3,o3,c3,vs⟩] (w.heap.size+1) _ ?_ ?_ ?_ (by simp)).mono ?_
 ·intro k hk
  match k,hk with
  | 0,_=>show _=some (Value.slice _ us.length _); rw[hn1]; exact yF kB 0
  | 1,_=>exact yF kB 1
  | 2,_=>show _=some (Value.slice _ vs.length _); rw[hn3]; exact yF kB 2
 ·intro s hs
  rcases List.mem_cons.1 hs with rfl | hs
  ·exact⟨v1,q1,k1⟩
  ·rcases List.mem_cons.1 hs with rfl | hs
   ·refine⟨⟨fun _=>rfl,fun k hk=>?_⟩,fun u hu=>by rw[List.mem_singleton.1 hu]; exact hy,fun h=>by cases h⟩
    have hk':k=0:=by simpa using hk
    subst hk'
    exact yF kA2 0
   ·obtain rfl:=List.mem_singleton.1 hs
    exact⟨v3,q3,k3⟩
 ·simp[zbK]; omega
 ·rintro e w' ⟨r,rfl,o,b⟩
  have ef:zbK [⟨a1,g1,o1,c1,us⟩,⟨some ⟨w.heap.size,0,none⟩,w.heap.size,0,1,[y]⟩,⟨a3,g3,o3,c3,vs⟩]=us++y :: vs:=by simp[zbK]
  rw[ef] at o
  exact⟨r,_,rfl,zaC o hW.size,rfl,zaa hW b⟩
theorem zmG (l:JL) (u:JV) (t:List UInt8) (w:World) (ty ty':TypeId) (p p':Value) (ht:t.length<=1048576) (hl:(ct (.arr l)).length<=500000) (hr:TrA w (.arr l) (.iface ty p)) (hu:TrA w u (.iface ty' p')) :
  Calls prog 242 #[.iface ty p,.string (zac t),.iface ty' p'] w (zbI w (zc4 3 (za7 (.arr l) t u))):=by
 have hr':=hr
 unfold TrA at hr'
 rw[Rep] at hr'
 obtain⟨ab,sv,xs,h,hSab,hab,hrow,hrl⟩:=hr'
 injection h with h1 h2; subst h1; subst h2
 obtain⟨a,g0,cap,rfl,_,_⟩:=zbD hrow
 obtain⟨hxl,_⟩:=zbJ l xs hrl
 have hcnt:=zfu hl
 rw[← hxl] at hcnt
 have hc0:w.cell? ⟨ab,0,none⟩=some (.slice a xs.length cap):=by rw[yF hab]; rfl
 have t1:∀ w:World,(Instr.typeAssert (.iface 195 (.pointer (some ⟨ab,0,none⟩))) 66 195 true).run prog w = .ok (.tuple #[.pointer (some ⟨ab,0,none⟩),.bool true]) w:=fun _=>by kernel_rfl
 have HI:=zck (zac t) w (by rw[zaf]; exact ht)
 rw[zad] at HI
 obtain⟨z,ok,hzo⟩ : ∃ (z:Nat) (ok:Bool),zlU t = .tuple #[.int .i64 (z:Int),.bool ok]:=by
  unfold zlU
  cases zgh t with
  | none=>exact⟨0,false,rfl⟩
  | some i=>exact⟨i,true,rfl⟩
 obtain⟨i,hi⟩ : ∃ i:Nat,i=if t=[45] then xs.length else z:=⟨_,rfl⟩
 obtain⟨b,hb⟩ : ∃ b:Bool,b=if t=[45] then true else ok:=⟨_,rfl⟩
 have hput:za7 (.arr l) t u=if b=true/\i<=xs.length then some (.arr (JL.ofL (l.toL.take i++u :: l.toL.drop i))) else none:=by
  simp only[za7]
  by_cases hd:t=[45]
  ·rw[yg hd] at hi hb ⊢
   subst hi; subst hb
   rw[← hxl]
   simp
  ·rw[yf hd] at hi hb ⊢
   subst hi; subst hb
   unfold zlU at hzo
   cases hx:zgh t with
   | none=>
    rw[hx] at hzo
    injection hzo with e
    have e2:b=false:=by have:=congrArg (fun x:Array Value=>x[1]?) e; simp at this; exact this
    rw[e2]; simp
   | some j=>
    rw[hx] at hzo
    injection hzo with e
    have e2:b=true:=by have:=congrArg (fun x:Array Value=>x[1]?) e; simp at this; exact this
    have e3:i=j:=by have:=congrArg (fun x:Array Value=>x[0]?) e; simp at this; omega
    subst e3
    rw[e2,hxl]
    simp
 rw[hzo] at HI
 have HI':=zab HI
 have hne:((zac t).toList == [45])=decide (t=[45]):=by rw[ByteArray.toList_eq,zad]; by_cases h:t=[45] <;> simp[h]
 have hcap:=zqV hrow
 have hcap1:=hcap.1
 have hcap2:=hcap.2
 have q1:=zgd hrl
 have HFIN:Hid (∀ (w1:World) (r:Value) (n:Nat),Below w.heap.size w w1->w1.ownsRow w.heap.size 66 1 r n (xs.take i++.iface ty' p' :: xs.drop i)->n=(xs.take i++.iface ty' p' :: xs.drop i).length->TrA (w1.alloc (.cells #[r] 198)) (.arr (JL.ofL (l.toL.take i++u :: l.toL.drop i))) (.iface 195 (.pointer (some ⟨w1.heap.size,0,none⟩)))):=fun w1 r n hb ho hn=>
  zqU hb ho hn (zs8 i (by rw[JL.ofL_toL]; exact hrl) hu)
 by_cases hin:b=true/\i<=xs.length
 ·have HPUT:Hid (za7 (.arr l) t u=some (.arr (JL.ofL (l.toL.take i++u :: l.toL.drop i)))):=by show _=_; rw[hput,yg hin]
  have hiI:(i:Int)<=(xs.length:Int):=by omega
  have hiC:(i:Int)<=(cap:Int):=by omega
  have hin2:=hin.2
  have HB1:=zab hin.1
  have hl1:(xs.take i).length=i:=by rw[ym]; omega
  have hl3:(xs.drop i).length=xs.length - i:=yu
  rcases zqW hrow with ⟨rfl,rfl,-,hnil⟩ | ⟨g,rfl,hSg,-,hVR⟩
  ·subst hnil
   have hi0:i=0:=by simpa using hin2
   subst hi0
   have v0:VR w none 0 0 []:=⟨fun h=>by simp at h,fun j h=>by simp at h⟩
   have HCON:=zab (zqX w (.iface ty' p') rfl [] [] none none 0 0 0 0 0 0 0 0 rfl rfl v0 v0 (fun _=>rfl) (fun _=>rfl) (fun u hu=>by simp at hu) (fun u hu=>by simp at hu) (by simp))
   have HFIN':Hid (∀ (w1:World) (r:Value) (n:Nat),Below w.heap.size w w1->w1.ownsRow w.heap.size 66 1 r n ([]++.iface ty' p' :: [])->n=([]++Value.iface ty' p' :: []).length->TrA (w1.alloc (.cells #[r] 198)) (.arr (JL.ofL (l.toL.take 0++u :: l.toL.drop 0))) (.iface 195 (.pointer (some ⟨w1.heap.size,0,none⟩)))):=fun w1 r n=>uh HFIN w1 r n
   clear hr hu hrow hrl HI hl hab hxl hcap q1 hput hin hl1 hl3 hzo v0 HFIN
   simp only[yD] at hc0
   by_cases hd:t=[45]
   ·rw[yj hd] at hne
    clear hb hd hi
    generalize zac t=st at *
    go_enter func242,ntmps242
    go_wp2_with fail
    refine (uh HI').mono ?_
    rintro e w1 ⟨rfl,rfl⟩
    clear HI'
    go_wp2_with fail
    go_region_law (go_simp; refine (uh HCON).mono ?_; rintro e w4 ⟨r,n,rfl,o4,hn4,b4⟩; obtain⟨ra,rc,rfl⟩:=zhD o4; have HF:=zab (uh HFIN' w4 _ n b4 o4 hn4); have HB4:=zab b4; clear HFIN' HCON o4 hn4 b4)
    all_goals
     go_wp2
     go_ret2
     exact⟨(uh HB4).alloc (uh HB4).size _,.inr ⟨_,_,_,by rw[uh HPUT]; rfl,rfl,uh HF⟩⟩
   ·rw[yf hd] at hi hb
    rw[yk hd] at hne
    subst hi
    have hok:ok=true:=by rw[← hb]; exact uh HB1
    subst hok
    clear hb hd HB1
    generalize zac t=st at *
    go_enter func242,ntmps242
    go_wp2_with fail
    refine (uh HI').mono ?_
    rintro e w1 ⟨rfl,rfl⟩
    clear HI'
    go_wp2_with fail
    go_region_law (go_simp; refine (uh HCON).mono ?_; rintro e w4 ⟨r,n,rfl,o4,hn4,b4⟩; obtain⟨ra,rc,rfl⟩:=zhD o4; have HF:=zab (uh HFIN' w4 _ n b4 o4 hn4); have HB4:=zab b4; clear HFIN' HCON o4 hn4 b4)
    all_goals
     go_wp2
     go_ret2
     exact⟨(uh HB4).alloc (uh HB4).size _,.inr ⟨_,_,_,by rw[uh HPUT]; rfl,rfl,uh HF⟩⟩
  ·have HCON:=zab (zqX w (.iface ty' p') rfl (xs.take i) (xs.drop i) (some ⟨g,0,none⟩) (if cap=i then some ⟨g,0,none⟩ else some ⟨g,i,none⟩) g 0 cap i g (0+i) (cap - i) (xs.length - i) hl1 hl3 (hVR.take i) (hVR.drop i (fun h=>by rw[yf (by omega),Nat.zero_add])) (fun h=>by cases h) (fun h=>by split at h <;> cases h) (fun u hu=>q1 u (List.mem_of_mem_take hu)) (fun u hu=>q1 u (List.mem_of_mem_drop hu)) (by omega))
   clear hr hu hrow hrl HI hl hab hxl hcap q1 hput hin hl1 hl3 hVR hzo
   by_cases hd:t=[45]
   ·rw[yg hd] at hi hb
    rw[yj hd] at hne
    have HII:=zab hi
    have hiz:(xs.length:Int)=(i:Int):=by omega
    clear hb hd hi
    generalize zac t=st at *
    go_enter func242,ntmps242
    go_wp2_with fail
    refine (uh HI').mono ?_
    rintro e w1 ⟨rfl,rfl⟩
    clear HI'
    go_wp2_with fail
    go_region_law (go_simp; refine (uh HCON).mono ?_; rintro e w4 ⟨r,n,rfl,o4,hn4,b4⟩; obtain⟨ra,rc,rfl⟩:=zhD o4; have HF:=zab (uh HFIN w4 _ n b4 o4 hn4); have HB4:=zab b4; clear HFIN HCON o4 hn4 b4)
    all_goals
     generalize (if cap=i then some (⟨g,0,none⟩ : Addr) else some ⟨g,i,none⟩)=ad at *
     go_wp2
     go_ret2
     exact⟨(uh HB4).alloc (uh HB4).size _,.inr ⟨_,_,_,by rw[uh HPUT]; rfl,rfl,uh HF⟩⟩
   ·rw[yf hd] at hi hb
    rw[yk hd] at hne
    subst hi
    have hok:ok=true:=by rw[← hb]; exact uh HB1
    subst hok
    clear hb hd HB1
    generalize zac t=st at *
    go_enter func242,ntmps242
    go_wp2_with fail
    refine (uh HI').mono ?_
    rintro e w1 ⟨rfl,rfl⟩
    clear HI'
    go_wp2_with fail
    go_region_law (go_simp; refine (uh HCON).mono ?_; rintro e w4 ⟨r,n,rfl,o4,hn4,b4⟩; obtain⟨ra,rc,rfl⟩:=zhD o4; have HF:=zab (uh HFIN w4 _ n b4 o4 hn4); have HB4:=zab b4; clear HFIN HCON o4 hn4 b4)
    all_goals
     generalize (if cap=i then some (⟨g,0,none⟩ : Addr) else some ⟨g,i,none⟩)=ad at *
     go_wp2
     go_ret2
     exact⟨(uh HB4).alloc (uh HB4).size _,.inr ⟨_,_,_,by rw[uh HPUT]; rfl,rfl,uh HF⟩⟩
 ·have HPUT:Hid (za7 (.arr l) t u=none):=by show _=_; rw[hput,yf hin]
  have hd:¬ t=[45]:=fun hd=>hin ⟨by rw[hb,yg hd],by rw[hi,yg hd]; exact ye _⟩
  rw[yf hd] at hi hb
  rw[yk hd] at hne
  subst hi; subst hb
  clear hr hu hrow hrl HI hl hab hxl hcap q1 hput hzo HFIN hd
  generalize zac t=st at *
  cases b with
  | false=>
   clear hin
   go_enter func242,ntmps242
   go_wp2_with fail
   refine (uh HI').mono ?_
   rintro e w1 ⟨rfl,rfl⟩
   clear HI'
   go_wp2
   go_ret2
   exact⟨zag _ _,.inl ⟨3,_,by rw[uh HPUT]; rfl,rfl,_,rfl,yG _ _⟩⟩
  | true=>
   have h1:¬ (i:Int)<=(xs.length:Int):=fun h=>hin ⟨rfl,by omega⟩
   have h2:decide ((i:Int)<=(xs.length:Int))=false:=yk h1
   clear hin
   go_enter func242,ntmps242
   go_wp2_with fail
   refine (uh HI').mono ?_
   rintro e w1 ⟨rfl,rfl⟩
   clear HI'
   go_wp2
   go_ret2
   exact⟨zag _ _,.inl ⟨3,_,by rw[uh HPUT]; rfl,rfl,_,rfl,yG _ _⟩⟩
theorem zo2 (v u:JV) (t:List UInt8) (w:World) (ty ty':TypeId) (p p':Value) (hw:RdW w) (hv:GdT v) (ht:t.length<=1048576) (hl:(ct v).length<=500000) (hr:TrA w v (.iface ty p)) (hu:TrA w u (.iface ty' p')) :
  Calls prog 242 #[.iface ty p,.string (zac t),.iface ty' p'] w (zbI w (zc4 3 (za7 v t u))):=by
 have leaf:(∀ w:World,(Instr.typeAssert (.iface ty p) 66 195 true).run prog w = .ok (.tuple #[.pointer none,.bool false]) w)->(∀ w:World,(Instr.typeAssert (.iface ty p) 66 225 true).run prog w = .ok (.tuple #[.pointer none,.bool false]) w)->za7 v t u=none ->
   Calls prog 242 #[.iface ty p,.string (zac t),.iface ty' p'] w (zbI w (zc4 3 (za7 v t u))):=fun h1 h2 hc=>by
  have HPUT:=zab hc
  clear hc hr hu hv hw
  generalize zac t=st at *
  go_enter func242,ntmps242
  go_wp2
  go_ret2
  exact⟨zag _ _,.inl ⟨3,_,by rw[uh HPUT]; rfl,rfl,_,rfl,yG _ _⟩⟩
 have hr0:=hr
 unfold TrA at hr0
 cases v with
 | nul=>rw[Rep] at hr0; injection hr0 with a b; subst a; subst b; exact leaf (fun _=>by kernel_rfl) (fun _=>by kernel_rfl) rfl
 | tt=>rw[Rep] at hr0; injection hr0 with a b; subst a; subst b; exact leaf (fun _=>by kernel_rfl) (fun _=>by kernel_rfl) rfl
 | ff=>rw[Rep] at hr0; injection hr0 with a b; subst a; subst b; exact leaf (fun _=>by kernel_rfl) (fun _=>by kernel_rfl) rfl
 | num l=>rw[Rep] at hr0; obtain⟨z,hr0,_⟩:=hr0; injection hr0 with a b; subst a; subst b; exact leaf (fun _=>by kernel_rfl) (fun _=>by kernel_rfl) rfl
 | str l=>rw[Rep] at hr0; injection hr0 with a b; subst a; subst b; exact leaf (fun _=>by kernel_rfl) (fun _=>by kernel_rfl) rfl
 | arr l=>exact zmG l u t w ty ty' p p' ht hl hr hu
 | obj m=>
  clear leaf
  rw[Rep] at hr0
  obtain⟨ob,mb,nn,xs,h,hSob,hSmb,hob,hown,hnn,hrm⟩:=hr0
  injection h with h1 h2; subst h1; subst h2
  have hd:=((zbi m).1 hv).1
  have hxl:xs.length=m.toL.length:=by have:=congrArg List.length (zcr m xs hrm).1; rw[zft] at this; simpa using this
  have hcnt:=zk2 hl
  have t1:∀ w:World,(Instr.typeAssert (.iface 225 (.pointer (some ⟨ob,0,none⟩))) 66 195 true).run prog w = .ok (.tuple #[.pointer none,.bool false]) w:=fun _=>by kernel_rfl
  have t2:∀ w:World,(Instr.typeAssert (.iface 225 (.pointer (some ⟨ob,0,none⟩))) 66 225 true).run prog w = .ok (.tuple #[.pointer (some ⟨ob,0,none⟩),.bool true]) w:=fun _=>by kernel_rfl
  have HV:=Any.utf8_ValidString Tryz.laysValid (zac t) w (by rw[zaf]; omega) hw.tab.tabs
  rw[zad] at HV
  have HV':=zab HV
  have HW:Hid (∀ wx,Below w.heap.size w wx->Calls prog 269 #[.pointer (some ⟨ob,0,none⟩),.string (zac t),.iface ty' p'] wx (zwy wx (xs++[(t,.iface ty' p')]))):=fun wx hx=>
   ziS ob mb nn xs t (.iface ty' p') wx ((hx.block ob hSob).trans hob) (za1 hown (hx.block mb hSmb)) (by omega) ht
  cases hval:Lib.validD t with
  | false=>
   have HPUT:Hid (za7 (.obj m) t u=none):=by show _=_; simp only[za7,hval]; rfl
   rw[hval] at HV'
   clear hr hu hown hrm hv hl hob hd hxl HV HW hval
   generalize zac t=st at *
   go_enter func242,ntmps242
   go_wp2_with fail
   refine (uh HV').mono ?_
   rintro e w1 ⟨rfl,b1⟩
   have HB:=zab b1
   clear HV' b1
   go_wp2
   go_ret2
   exact⟨zaa (uh HB) (zag _ _),.inl ⟨3,_,by rw[uh HPUT]; rfl,rfl,_,rfl,yG _ _⟩⟩
  | true=>
   have HPUT:Hid (za7 (.obj m) t u=some (if (zal (.obj m) t).isSome then zby (.obj m) t u else .obj (JM.ofL (m.toL++[(t,u)])))):=by show _=_; simp only[za7,hval]; rfl
   have HFIN:Hid (∀ (w1:World) (ob' b n:Nat),Below w.heap.size w w1->ob' < w1.heap.size->b < w1.heap.size->w1.heap[ob']?=some (.cells #[.map (some b)] 228 (0,0))->w1.ownsMap prog 9 RH b n (zao (xs++[(t,.iface ty' p')]))->TrA w1 (if (zal (.obj m) t).isSome then zby (.obj m) t u else .obj (JM.ofL (m.toL++[(t,u)]))) (.iface 225 (.pointer (some ⟨ob',0,none⟩)))):=fun w1 ob' b n hb a1 a2 a3 a4=>
    zk1 hb hrm hd hu a1 a2 a3 a4
   rw[hval] at HV'
   clear hr hu hown hrm hv hl hob hd hxl HV hval
   generalize zac t=st at *
   go_enter func242,ntmps242
   go_wp2_with fail
   refine (uh HV').mono ?_
   rintro e w1 ⟨rfl,b1⟩
   have HW1:=zab (uh HW w1 b1)
   have HB:=zab b1
   clear HV' b1 HW
   go_wp2_with fail
   refine (uh HW1).mono ?_
   rintro e w2 ⟨ob',b',n',rfl,b2,a1,a2,a3,a4⟩
   have HB2:=zab (zaa (uh HB) b2)
   have HF:=zab (uh HFIN w2 ob' b' n' (uh HB2) a1 a2 a3 a4)
   clear HW1 HB b2 a1 a2 a3 a4 HFIN
   go_wp2
   go_ret2
   exact⟨uh HB2,.inr ⟨_,_,_,by rw[uh HPUT]; rfl,rfl,uh HF⟩⟩
theorem SS.last {w:World} {a:Option Addr} {g off:Nat} {ts:List (List UInt8)} (h:SS w a g off (ts.map baT)) (h0:ts≠[]) : SS w a g off (ts.dropLast.map baT)/\a=some ⟨g,off,none⟩/\w.cell? ⟨g,off+(ts.length - 1),none⟩=some (.string (zac (zcP ts))):=by
 obtain⟨xs,t,rfl⟩ : ∃ xs t,ts=xs++[t]:=⟨ts.dropLast,ts.getLast h0,(List.dropLast_concat_getLast h0).symm⟩
 have e1:(xs++[t]).dropLast=xs:=List.dropLast_concat
 have e2:zcP (xs++[t])=t:=by simp[zcP]
 have e3:(xs++[t]).length - 1=xs.length:=by simp
 rw[e1,e2,e3]
 have hlen:((xs++[t]).map baT).length=xs.length+1:=by simp
 refine⟨⟨fun h0=>h.ad (by rw[hlen]; omega),fun j hj=>?_⟩,h.ad (by rw[hlen]; omega),?_⟩
 ·rw[yl] at hj
  have:=h.cell j (by rw[hlen]; omega)
  rw[this,yw]
  simp[List.getElem?_append_left,hj]
 ·have:=h.cell xs.length (by rw[hlen]; omega)
  rw[this,yw]
  simp[baT,zac]
theorem zbI.two {w w':World} {o:Nat⊕JV} {e:Ending} (h:zbI w o e w') : ∃ x y,e = .returned (.tuple #[x,y])/\zbI w o (.returned (.tuple #[x,y])) w':=by
 obtain⟨b,⟨c,ev,h1,rfl,h2⟩ | ⟨u,t,p,h1,rfl,h2⟩⟩:=h
 ·exact⟨_,_,rfl,b,.inl ⟨c,ev,h1,rfl,h2⟩⟩
 ·exact⟨_,_,rfl,b,.inr ⟨u,t,p,h1,rfl,h2⟩⟩
theorem zbI.undrew {w w':World} {o:Nat⊕JV} {e:Ending} (h:zbI w.drew o e w') : zbI w o e w':=⟨(yH _ w).drew.trans h.1,h.2⟩
theorem zbI.from {w w1 w':World} {o:Nat⊕JV} {e:Ending} (hb:Below w.heap.size w w1) (h:zbI w1 o e w') : zbI w o e w':=⟨zaa hb h.1,h.2⟩
theorem zmH (h u:JV) (t:List UInt8) (w:World) (ty ty':TypeId) (p p':Value) (tb lb vb g off n cap:Nat) (hw:RdW w) (hv:GdT h) (ht:t.length<=1048576) (hl:(ct h).length<=500000) (hr:TrA w h (.iface ty p)) (hu:TrA w u (.iface ty' p'))
  (k1:w.cell? ⟨tb,0,none⟩=some (.slice (some ⟨g,off,none⟩) (n+1) cap)) (k2:w.cell? ⟨lb,0,none⟩=some (.int .i64 (n:Int))) (k3:w.cell? ⟨vb,0,none⟩=some (.iface ty' p')) (k4:w.cell? ⟨g,off+n,none⟩=some (.string (zac t))) (_hn:n<=10000000) :
  Calls prog 241 #[.iface ty p,.pointer (some ⟨tb,0,none⟩),.pointer (some ⟨lb,0,none⟩),.pointer (some ⟨vb,0,none⟩)] w (zbI w (zc4 3 (za7 h t u))):=by
 have HP:Hid (Calls prog 242 #[.iface ty p,.string (zac t),.iface ty' p'] w.drew (zbI w.drew (zc4 3 (za7 h t u)))):=zo2 h u t w.drew ty ty' p p' (hw.up (yH _ _).drew) hv ht hl (hr.next (yH _ _).drew) (hu.next (yH _ _).drew)
 have hnI:(n:Int) < (n:Int)+1:=by omega
 clear hw hv hr hu
 generalize zac t=st at *
 go_enter func241,ntmps241
 go_wp2_with fail
 go_region_law (go_simp; refine (uh HP).mono ?_; rintro e w1 hP; obtain⟨x,y,rfl,hQ⟩:=zbI.two hP; have HQ:=zab hQ; clear hP hQ HP)
 all_goals
  go_wp2
  go_ret2
  exact zbI.undrew (uh HQ)
theorem zio (h:JV) (t:List UInt8) (w:World) (ty:TypeId) (p:Value) (tb lb g off n cap:Nat) (hv:GdT h) (ht:t.length<=1048576) (hl:(ct h).length<=500000) (hr:TrA w h (.iface ty p))
  (k1:w.cell? ⟨tb,0,none⟩=some (.slice (some ⟨g,off,none⟩) (n+1) cap)) (k2:w.cell? ⟨lb,0,none⟩=some (.int .i64 (n:Int))) (k4:w.cell? ⟨g,off+n,none⟩=some (.string (zac t))) (_hn:n<=10000000) :
  Calls prog 243 #[.iface ty p,.pointer (some ⟨tb,0,none⟩),.pointer (some ⟨lb,0,none⟩)] w (zbI w (zc4 3 (zdc h t))):=by
 have HP:=zab (zk4 h t w ty p hv ht (by omega) hr)
 have hnI:(n:Int) < (n:Int)+1:=by omega
 clear hv hr
 generalize zac t=st at *
 go_enter func243,ntmps243
 go_wp2_with fail
 refine (uh HP).mono ?_
 rintro e w1 hP
 obtain⟨x,y,rfl,hQ⟩:=zbI.two hP
 have HQ:=zab hQ
 clear hP hQ HP
 go_wp2
 go_ret2
 exact uh HQ
theorem zge (v u:JV) (ts:List (List UInt8)) (a:Option Addr) (g off cap:Nat) (w:World) (ty ty':TypeId) (p p':Value) (hw:RdW w) (hv:GdT v) (hl:(ct v).length<=500000) (hr:TrA w v (.iface ty p)) (hu:TrA w u (.iface ty' p')) (hs:SS w a g off (ts.map baT)) (hcap:ts.length<=cap) (hcap2:cap<=9223372036854775807) (hn9:ts.length<=10000000) (ht:∀ t∈ts,t.length<=1048576) :
  Calls prog 215 #[.iface ty p,.slice a ts.length cap,.iface ty' p'] w (zbI w (zc4 3 (zet v ts u))):=by
 by_cases h0:ts=[]
 ·subst h0
  have HE:Hid (zet v [] u=some u):=by show _=_; unfold zet; rw[yg rfl]
  have HU:Hid (∀ wx,Below w.heap.size w wx->TrA wx u (.iface ty' p')):=fun wx hx=>hu.next hx
  clear hw hv hr hu hs
  simp only[yD]
  go_enter func215,ntmps215
  go_wp2
  go_ret2
  have hb:=zaa (zag w (.cells #[.slice a 0 cap] 55)) (zag _ (.cells #[.iface ty' p'] 66))
  exact⟨hb,.inr ⟨u,_,_,by rw[uh HE]; rfl,rfl,uh HU _ hb⟩⟩
 ·obtain⟨hs1,rfl,hlast⟩:=hs.last h0
  have hlen:0 < ts.length:=List.length_pos_iff.2 h0
  obtain⟨n,hn⟩ : ∃ n,ts.length=n+1:=⟨ts.length - 1,by omega⟩
  have hmem:zcP ts∈ts:=by
   rw[← List.dropLast_concat_getLast h0]
   simp[zcP]
  have ht0:=ht _ hmem
  have HPV:Hid (zet v ts u=zd2 (fun h=>za7 h (zcP ts) u) v ts.dropLast):=by show _=_; unfold zet; rw[yf h0]
  rw[hn,Nat.add_sub_cancel] at hlast
  have hdl:ts.dropLast.length=n:=by rw[List.length_dropLast,hn]; rfl
  have b1:=zag w (.cells #[.slice (some ⟨g,off,none⟩) (n+1) cap] 55)
  have k1:=yG w (.cells #[.slice (some ⟨g,off,none⟩) (n+1) cap] 55)
  have z1:(w.alloc (.cells #[.slice (some ⟨g,off,none⟩) (n+1) cap] 55)).heap.size=w.heap.size+1:=by simp
  generalize hw1:w.alloc (.cells #[.slice (some ⟨g,off,none⟩) (n+1) cap] 55)=w1 at b1 k1 z1
  have b2:=zag w1 (.cells #[.iface ty' p'] 66)
  have k2:=yG w1 (.cells #[.iface ty' p'] 66)
  have z2:(w1.alloc (.cells #[.iface ty' p'] 66)).heap.size=w1.heap.size+1:=by simp
  generalize hw2:w1.alloc (.cells #[.iface ty' p'] 66)=w2 at b2 k2 z2
  have b3:=zag w2 (.cells #[.int .i64 (n:Int)] 3)
  have k3:=yG w2 (.cells #[.int .i64 (n:Int)] 3)
  generalize hw3:w2.alloc (.cells #[.int .i64 (n:Int)] 3)=w3 at b3 k3
  have b13:=zaa b2 b3
  have b03:=zaa b1 b13
  have hF:zxP w3 241 #[.pointer (some ⟨w.heap.size,0,none⟩),.pointer (some ⟨w.heap.size+2,0,none⟩),.pointer (some ⟨w.heap.size+1,0,none⟩)] (fun h=>za7 h (zcP ts) u):=fun wx h tyh ph hx hgh hlh hrh=>by
   have bx:=zaa b03 hx
   have bx1:=zaa b13 hx
   have bx2:=zaa b3 hx
   refine zmH h u (zcP ts) wx tyh ty' ph p' w.heap.size (w.heap.size+2) (w.heap.size+1) g off n cap (hw.up bx) hgh ht0 hlh hrh (hu.next bx) ?_ ?_ ?_ ?_ (by omega)
   ·exact yF ((bx1.block _ (by omega)).trans k1) 0
   ·have:=(hx.block w2.heap.size (yB.1 k3).1).trans k3
    rw[z2,z1] at this
    exact yF this 0
   ·have:=(bx2.block w1.heap.size (by omega)).trans k2
    rw[z1] at this
    exact yF this 0
   ·exact (bx.cell (p:=⟨g,off+n,none⟩) (yJ _ _ hlast)).trans hlast
  have HCH:=zab (zcx 241 zvo _ _ ts.dropLast v (some ⟨g,off,none⟩) g off cap w3 ty p hF hv hl (hr.next b03) (hs1.below b03) (by omega) hcap2 (fun t h=>ht t ((List.dropLast_sublist ts).subset h)))
  rw[hdl] at HCH
  have HB03:=zab b03
  subst hw3; subst hw2; subst hw1
  have hnI:(n:Int)<=(cap:Int):=by omega
  have hn0:¬ ((n:Int)+1=0):=by omega
  rw[hn]
  clear hw hv hr hu hs hs1 ht hF b1 k1 z1 b2 k2 z2 b3 k3 b13 b03 hdl hn hlen ht0 hmem hlast h0
  go_enter func215,ntmps215
  go_wp2_with fail
  refine (uh HCH).mono ?_
  rintro e w4 hP
  obtain⟨x,y,rfl,hQ⟩:=zbI.two hP
  have HQ:=zab (zbI.from (uh HB03) hQ)
  clear hP hQ HCH HB03
  go_wp2
  go_ret2
  rw[uh HPV]
  exact uh HQ
theorem zfv (v:JV) (ts:List (List UInt8)) (a:Option Addr) (g off cap:Nat) (w:World) (ty:TypeId) (p:Value) (hv:GdT v) (hl:(ct v).length<=500000) (hr:TrA w v (.iface ty p)) (hs:SS w a g off (ts.map baT)) (hcap:ts.length<=cap) (hcap2:cap<=9223372036854775807) (hn9:ts.length<=10000000) (ht:∀ t∈ts,t.length<=1048576) :
  Calls prog 216 #[.iface ty p,.slice a ts.length cap] w (zbI w (zc4 3 (zbQ v ts))):=by
 by_cases h0:ts=[]
 ·subst h0
  have HE:Hid (zbQ v []=none):=by show _=_; unfold zbQ; rw[yg rfl]
  clear hv hr hs
  simp only[yD]
  go_enter func216,ntmps216
  go_wp2
  go_ret2
  exact⟨zaa (zag w (.cells #[.slice a 0 cap] 55)) (zag _ _),.inl ⟨3,_,by rw[uh HE]; rfl,rfl,_,rfl,by first | exact yG _ _ | (have:=yG (w.alloc (.cells #[.slice a 0 cap] 55)) (.cells #[.int .i64 3] 167); simpa using this)⟩⟩
 ·obtain⟨hs1,rfl,hlast⟩:=hs.last h0
  have hlen:0 < ts.length:=List.length_pos_iff.2 h0
  obtain⟨n,hn⟩ : ∃ n,ts.length=n+1:=⟨ts.length - 1,by omega⟩
  have hmem:zcP ts∈ts:=by
   rw[← List.dropLast_concat_getLast h0]
   simp[zcP]
  have ht0:=ht _ hmem
  have HPV:Hid (zbQ v ts=zd2 (fun h=>zdc h (zcP ts)) v ts.dropLast):=by show _=_; unfold zbQ; rw[yf h0]
  rw[hn,Nat.add_sub_cancel] at hlast
  have hdl:ts.dropLast.length=n:=by rw[List.length_dropLast,hn]; rfl
  have b1:=zag w (.cells #[.slice (some ⟨g,off,none⟩) (n+1) cap] 55)
  have k1:=yG w (.cells #[.slice (some ⟨g,off,none⟩) (n+1) cap] 55)
  have z1:(w.alloc (.cells #[.slice (some ⟨g,off,none⟩) (n+1) cap] 55)).heap.size=w.heap.size+1:=by simp
  generalize hw1:w.alloc (.cells #[.slice (some ⟨g,off,none⟩) (n+1) cap] 55)=w1 at b1 k1 z1
  have b3:=zag w1 (.cells #[.int .i64 (n:Int)] 3)
  have k3:=yG w1 (.cells #[.int .i64 (n:Int)] 3)
  generalize hw3:w1.alloc (.cells #[.int .i64 (n:Int)] 3)=w3 at b3 k3
  have b03:=zaa b1 b3
  have hF:zxP w3 243 #[.pointer (some ⟨w.heap.size,0,none⟩),.pointer (some ⟨w.heap.size+1,0,none⟩)] (fun h=>zdc h (zcP ts)):=fun wx h tyh ph hx hgh hlh hrh=>by
   have bx:=zaa b03 hx
   have bx1:=zaa b3 hx
   refine zio h (zcP ts) wx tyh ph w.heap.size (w.heap.size+1) g off n cap hgh ht0 hlh hrh ?_ ?_ ?_ (by omega)
   ·exact yF ((bx1.block _ (by omega)).trans k1) 0
   ·have:=(hx.block w1.heap.size (yB.1 k3).1).trans k3
    rw[z1] at this
    exact yF this 0
   ·exact (bx.cell (p:=⟨g,off+n,none⟩) (yJ _ _ hlast)).trans hlast
  have HCH:=zab (zcx 243 zvp _ _ ts.dropLast v (some ⟨g,off,none⟩) g off cap w3 ty p hF hv hl (hr.next b03) (hs1.below b03) (by omega) hcap2 (fun t h=>ht t ((List.dropLast_sublist ts).subset h)))
  rw[hdl] at HCH
  have HB03:=zab b03
  subst hw3; subst hw1
  have hnI:(n:Int)<=(cap:Int):=by omega
  have hn0:¬ ((n:Int)+1=0):=by omega
  rw[hn]
  clear hv hr hs hs1 ht hF b1 k1 z1 b3 k3 b03 hdl hn hlen ht0 hmem hlast h0
  go_enter func216,ntmps216
  go_wp2_with fail
  refine (uh HCH).mono ?_
  rintro e w4 hP
  obtain⟨x,y,rfl,hQ⟩:=zbI.two hP
  have HQ:=zab (zbI.from (uh HB03) hQ)
  clear hP hQ HCH HB03
  go_wp2
  go_ret2
  rw[uh HPV]
  exact uh HQ
structure zo3 (w:World) (x:Value) (ts:List (List UInt8)) (a:Option Addr) (g cap:Nat) : Prop where
 form:x = .slice a ts.length cap
 row:SS w a g 0 (ts.map baT)
 cap1:ts.length<=cap
 cap2:cap<=9223372036854775807
 len:ts.length<=10000000
 tok:∀ t∈ts,t.length<=1048576
theorem zo3.next {w w':World} {x:Value} {ts:List (List UInt8)} {a:Option Addr} {g cap:Nat} (h:zo3 w x ts a g cap) (hb:Below w.heap.size w w') : zo3 w' x ts a g cap:=⟨h.form,h.row.below hb,h.cap1,h.cap2,h.len,h.tok⟩
structure OpM (w:World) (og:Nat) (o:XOp) (hasVal:Bool) (pa fa:Option Addr) (pg pc fg fc:Nat) (vt:TypeId) (vp:Value) : Prop where
 path:zo3 w (.slice pa o.path.length pc) o.path pa pg pc
 src:zo3 w (.slice fa o.src.length fc) o.src fa fg fc
 c7:w.cell? ⟨og,7,none⟩=some (.slice pa o.path.length pc)
 c8:w.cell? ⟨og,8,none⟩=some (.slice fa o.src.length fc)
 c9:hasVal=true->w.cell? ⟨og,9,none⟩=some (.iface vt vp)
 val:hasVal=true->TrA w o.val (.iface vt vp)
theorem OpM.next {w w':World} {og:Nat} {o:XOp} {hasVal:Bool} {pa fa:Option Addr} {pg pc fg fc:Nat} {vt:TypeId} {vp:Value} (h:OpM w og o hasVal pa fa pg pc fg fc vt vp) (hb:Below w.heap.size w w') : OpM w' og o hasVal pa fa pg pc fg fc vt vp:=
 ⟨h.path.next hb,h.src.next hb,(hb.cell (p:=⟨og,7,none⟩) (yJ _ _ h.c7)).trans h.c7,(hb.cell (p:=⟨og,8,none⟩) (yJ _ _ h.c8)).trans h.c8,fun e=>(hb.cell (p:=⟨og,9,none⟩) (yJ _ _ (h.c9 e))).trans (h.c9 e),fun e=>(h.val e).next hb⟩
theorem zo4 (v:JV) (o:XOp) (w:World) (ty:TypeId) (p:Value) {og:Nat} {pa fa:Option Addr} {pg pc fg fc:Nat} {vt:TypeId} {vp:Value} (hw:RdW w) (hv:GdT v) (hl:(ct v).length<=500000) (hr:TrA w v (.iface ty p)) (ho:OpM w og o true pa fa pg pc fg fc vt vp) :
  Calls prog 181 #[.iface ty p,.pointer (some ⟨og,0,none⟩)] w (zbI w (zc4 3 (zet v o.path o.val))):=by
 have hd:Below w.heap.size w w.drew:=(yH _ _).drew
 have hp:=ho.path
 have HA:Hid (Calls prog 215 #[.iface ty p,.slice pa o.path.length pc,.iface vt vp] w.drew (zbI w.drew (zc4 3 (zet v o.path o.val)))):=zge v o.val o.path pa pg 0 pc w.drew ty vt p vp (hw.up hd) hv hl (hr.next hd) ((ho.val rfl).next hd) (hp.row.below hd) hp.cap1 hp.cap2 hp.len hp.tok
 have c7:=ho.c7
 have c9:=ho.c9 rfl
 clear hw hv hr ho hp hd
 generalize o.path.length=n at *
 go_enter func181,ntmps181
 go_wp2_with fail
 go_region_law (go_simp; refine (uh HA).mono ?_; rintro e w1 hP; obtain⟨x,y,rfl,hQ⟩:=zbI.two hP; have HQ:=zab hQ; clear hP hQ HA)
 all_goals
  go_wp2
  go_ret2
  exact zbI.undrew (uh HQ)
theorem zjL (v:JV) (o:XOp) (w:World) (ty:TypeId) (p:Value) {og:Nat} {b:Bool} {pa fa:Option Addr} {pg pc fg fc:Nat} {vt:TypeId} {vp:Value} (hv:GdT v) (hl:(ct v).length<=500000) (hr:TrA w v (.iface ty p)) (ho:OpM w og o b pa fa pg pc fg fc vt vp) :
  Calls prog 182 #[.iface ty p,.pointer (some ⟨og,0,none⟩)] w (zbI w (zc4 3 (zbQ v o.path))):=by
 have hp:=ho.path
 have HA:=zab (zfv v o.path pa pg 0 pc w ty p hv hl hr hp.row hp.cap1 hp.cap2 hp.len hp.tok)
 have c7:=ho.c7
 clear hv hr ho hp
 generalize o.path.length=n at *
 go_enter func182,ntmps182
 go_wp2_with fail
 refine (uh HA).mono ?_
 rintro e w1 hP
 obtain⟨x,y,rfl,hQ⟩:=zbI.two hP
 have HQ:=zab hQ
 clear hP hQ HA
 go_wp2
 go_ret2
 exact uh HQ
theorem zhE (u:JV) (x:Value) (w:World) (bb og:Nat) (vt:TypeId) (vp:Value) (k1:w.cell? ⟨bb,0,none⟩=some (.pointer (some ⟨og,0,none⟩))) (k2:w.cell? ⟨og,9,none⟩=some (.iface vt vp)) (hu:TrA w u (.iface vt vp)) :
  Calls prog 218 #[x,.pointer (some ⟨bb,0,none⟩)] w (zbI w (.inr u)):=by
 have HU:=zab hu
 clear hu
 go_enter func218,ntmps218
 go_wp2
 go_ret2
 exact⟨yH _ _,.inr ⟨u,_,_,rfl,rfl,uh HU⟩⟩
theorem zip (v:JV) (o:XOp) (w:World) (ty:TypeId) (p:Value) {og:Nat} {pa fa:Option Addr} {pg pc fg fc:Nat} {vt:TypeId} {vp:Value} (hv:GdT v) (hl:(ct v).length<=500000) (hr:TrA w v (.iface ty p)) (ho:OpM w og o true pa fa pg pc fg fc vt vp) :
  Calls prog 183 #[.iface ty p,.pointer (some ⟨og,0,none⟩)] w (zbI w (zc4 3 (zd2 (fun _=>some o.val) v o.path))):=by
 have b1:=zag w (.cells #[.pointer (some ⟨og,0,none⟩)] 170)
 have k1:=yG w (.cells #[.pointer (some ⟨og,0,none⟩)] 170)
 have ho1:=ho.next b1
 have hp:=ho1.path
 have hF:zxP (w.alloc (.cells #[.pointer (some ⟨og,0,none⟩)] 170)) 218 #[.pointer (some ⟨w.heap.size,0,none⟩)] (fun _=>some o.val):=fun wx h tyh ph hx hgh hlh hrh=>
  zhE o.val _ wx w.heap.size og vt vp (yF ((hx.block _ (by simp)).trans k1) 0) ((ho1.next hx).c9 rfl) ((ho1.next hx).val rfl)
 have HA:=zab (zcx 218 zvq _ _ o.path v pa pg 0 pc _ ty p hF hv hl (hr.next b1) hp.row hp.cap1 hp.cap2 hp.tok)
 have c7:=ho1.c7
 have HB:=zab b1
 clear hv hr ho ho1 hp hF b1 k1
 generalize o.path.length=n at *
 go_enter func183,ntmps183
 go_wp2_with fail
 refine (uh HA).mono ?_
 rintro e w1 hP
 obtain⟨x,y,rfl,hQ⟩:=zbI.two hP
 have HQ:=zab (zbI.from (uh HB) hQ)
 clear hP hQ HA HB
 go_wp2
 go_ret2
 exact uh HQ
def zk5 (v:JV) (o:XOp) : Nat⊕JV:=match za0 v o.src with
 | none=>.inl 3
 | some m=>zc4 3 (zet v o.path m)
theorem ztc {v:JV} {o:XOp} (h:za0 v o.src=none) : zk5 v o = .inl 3:=by unfold zk5; rw[h]
theorem zqY {v m:JV} {o:XOp} (h:za0 v o.src=some m) : zk5 v o=zc4 3 (zet v o.path m):=by unfold zk5; rw[h]
def zk6 (v:JV) (o:XOp) : Nat⊕JV:=match za0 v o.path with
 | none=>.inl 3
 | some h=>if ct h=ct o.val then .inr v else .inl 5
theorem ztd {v:JV} {o:XOp} (h:za0 v o.path=none) : zk6 v o = .inl 3:=by unfold zk6; rw[h]
theorem zqZ {v m:JV} {o:XOp} (h:za0 v o.path=some m) : zk6 v o=if ct m=ct o.val then .inr v else .inl 5:=by unfold zk6; rw[h]
theorem zmI (v:JV) (o:XOp) (w:World) (ty:TypeId) (p:Value) {og:Nat} {b:Bool} {pa fa:Option Addr} {pg pc fg fc:Nat} {vt:TypeId} {vp:Value} (hw:RdW w) (hv:GdT v) (hl:(ct v).length<=500000) (hr:TrA w v (.iface ty p)) (ho:OpM w og o b pa fa pg pc fg fc vt vp) (hsl:o.src.length<=1048577) :
  Calls prog 185 #[.iface ty p,.pointer (some ⟨og,0,none⟩)] w (zbI w (zk5 v o)):=by
 have hp:=ho.path
 have hf:=ho.src
 have HV:=zab (zea v hv o.src fa fg 0 fc w ty p hr hf.row hsl hf.tok)
 have HA:Hid (∀ (w1:World) (m:JV) t q,Below w.heap.size w w1->TrA w1 m (.iface t q)->Calls prog 215 #[.iface ty p,.slice pa o.path.length pc,.iface t q] w1 (zbI w1 (zc4 3 (zet v o.path m)))):=fun w1 m t q hx hm=>
  zge v m o.path pa pg 0 pc w1 ty t p q (hw.up hx) hv hl (hr.next hx) hm (hp.row.below hx) hp.cap1 hp.cap2 hp.len hp.tok
 have c8:=ho.c8
 have HC7:Hid (∀ w1,Below w.heap.size w w1->w1.cell? ⟨og,7,none⟩=some (.slice pa o.path.length pc)):=fun w1 hx=>(ho.next hx).c7
 clear hw hv hr ho hp hf
 generalize hnp:o.path.length=n at *
 generalize hns:o.src.length=k at *
 clear hnp hns
 go_enter func185,ntmps185
 go_wp2_with fail
 refine (uh HV).mono ?_
 rintro e w1 ⟨b1,⟨c,ev,h1,rfl,h2⟩ | ⟨m,t',q,h1,rfl,h2⟩⟩
 ·have hg:za0 v o.src=none:=by
   cases hq:za0 v o.src with
   | none=>rfl
   | some y=>rw[hq] at h1; cases h1
  rw[hg] at h1
  have hc:c=3:=by injection h1 with h1; exact h1.symm
  subst hc
  have HE:Hid (zbI w (zk5 v o) (.returned (.tuple #[.nilIface,ev])) w1):=⟨b1,.inl ⟨3,ev,ztc hg,rfl,h2⟩⟩
  obtain⟨fb,rfl,-⟩:=h2
  clear HV HA HC7 b1 h1 hg
  go_wp2
  go_ret2
  exact uh HE
 ·have hg:=zbz h1
  have HCR:=zab (zqY hg)
  have HA1:=zab (uh HA w1 m t' q b1 h2)
  have c7:=uh HC7 w1 b1
  have HB:=zab b1
  clear HV HA HC7 b1 h1 h2 hg
  go_wp2_with fail
  refine (uh HA1).mono ?_
  rintro e w2 hP
  obtain⟨x,y,rfl,hQ⟩:=zbI.two hP
  have HQ:=zab (zbI.from (uh HB) hQ)
  clear hP hQ HA1 HB
  go_wp2
  go_ret2
  rw[uh HCR]
  exact uh HQ
def zwz:Prop:=∀ (a b:JV) (w:World) (ta tb:TypeId) (pa pb:Value),GdT a->GdT b->(ct a).length<=1000000->(ct b).length<=1000000->TrA w a (.iface ta pa)->TrA w b (.iface tb pb) ->
 Calls prog 221 #[.iface ta pa,.iface tb pb] w fun e w'=>e = .returned (.bool (decide (ct a=ct b)))/\Below w.heap.size w w'
theorem zmJ (hEq:zwz) (v:JV) (o:XOp) (w:World) (ty:TypeId) (p:Value) {og:Nat} {pa fa:Option Addr} {pg pc fg fc:Nat} {vt:TypeId} {vp:Value} (hv:GdT v) (_hl:(ct v).length<=500000) (hu:GdT o.val) (hlu:(ct o.val).length<=1000000) (hr:TrA w v (.iface ty p)) (ho:OpM w og o true pa fa pg pc fg fc vt vp) (hsl:o.path.length<=1048577) (hgl:∀ m,za0 v o.path=some m->(ct m).length<=1000000) :
  Calls prog 186 #[.iface ty p,.pointer (some ⟨og,0,none⟩)] w (zbI w (zk6 v o)):=by
 have hp:=ho.path
 have HV:=zab (zea v hv o.path pa pg 0 pc w ty p hr hp.row hsl hp.tok)
 have HQ:Hid (∀ (w1:World) (m:JV) t q,Below w.heap.size w w1->za0 v o.path=some m->TrA w1 m (.iface t q)->Calls prog 221 #[.iface t q,.iface vt vp] w1 fun e w'=>e = .returned (.bool (decide (ct m=ct o.val)))/\Below w1.heap.size w1 w'):=fun w1 m t q hx hg hm=>
  hEq m o.val w1 t vt q vp (hv.get hg) hu (hgl m hg) hlu hm ((ho.next hx).val rfl)
 have c7:=ho.c7
 have HC9:Hid (∀ w1,Below w.heap.size w w1->w1.cell? ⟨og,9,none⟩=some (.iface vt vp)):=fun w1 hx=>(ho.next hx).c9 rfl
 have HR:Hid (∀ w1,Below w.heap.size w w1->TrA w1 v (.iface ty p)):=fun w1 hx=>hr.next hx
 clear hv hr ho hp hu hEq hgl
 generalize hnp:o.path.length=n at *
 clear hnp
 go_enter func186,ntmps186
 go_wp2_with fail
 refine (uh HV).mono ?_
 rintro e w1 ⟨b1,⟨c,ev,h1,rfl,h2⟩ | ⟨m,t',q,h1,rfl,h2⟩⟩
 ·have hg:za0 v o.path=none:=by
   cases hq:za0 v o.path with
   | none=>rfl
   | some y=>rw[hq] at h1; cases h1
  rw[hg] at h1
  have hc:c=3:=by injection h1 with h1; exact h1.symm
  subst hc
  have HE:Hid (zbI w (zk6 v o) (.returned (.tuple #[.nilIface,ev])) w1):=⟨b1,.inl ⟨3,ev,ztd hg,rfl,h2⟩⟩
  obtain⟨fb,rfl,-⟩:=h2
  clear HV HQ HC9 HR b1 h1 hg
  go_wp2
  go_ret2
  exact uh HE
 ·have hg:=zbz h1
  have HQ1:=zab (uh HQ w1 m t' q b1 hg h2)
  have htr:=zqZ hg
  have c9:=uh HC9 w1 b1
  have HB:=zab b1
  clear HV HQ HC9 b1 h1 h2 hg
  by_cases he:ct m=ct o.val
  ·rw[yj he] at HQ1
   rw[yg he] at htr
   have HT:=zab htr
   clear he htr
   go_wp2_with fail
   refine (uh HQ1).mono ?_
   rintro e w2 ⟨rfl,b2⟩
   have HB2:=zab (zaa (uh HB) b2)
   clear HQ1 b2 HB
   go_wp2
   go_ret2
   exact⟨uh HB2,.inr ⟨v,_,_,uh HT,rfl,uh HR _ (uh HB2)⟩⟩
  ·rw[yk he] at HQ1
   rw[yf he] at htr
   have HT:=zab htr
   clear he htr
   go_wp2_with fail
   refine (uh HQ1).mono ?_
   rintro e w2 ⟨rfl,b2⟩
   have HB2:=zab (zaa (uh HB) b2)
   clear HQ1 b2 HB HR
   go_wp2
   go_ret2
   exact⟨zaa (uh HB2) (zag _ _),.inl ⟨5,_,uh HT,rfl,_,rfl,yG _ _⟩⟩
theorem zgG (s:ByteArray) (hs:s.size<=1048576) : (zkV s).length<=1048577/\∀ x∈zkV s,x.length<=1048576:=by
 have hdl:=zak s
 have h1:=zg3 s.data.toList
 refine⟨by show ((zar s.data.toList).getD []).length<=_; omega,fun x hx=>?_⟩
 unfold zkV at hx
 cases hp:zar s.data.toList with
 | none=>rw[hp] at hx; simp at hx
 | some ts=>
  rw[hp] at hx
  have:=zg5 hp x (by simpa using hx)
  omega
theorem zug {w:World} {x:Value} {s:ByteArray} (h:OT w 0 x (zkV s)) (hs:s.size<=1048576) : ∃ a g cap,x = .slice a (zkV s).length cap/\zo3 w (.slice a (zkV s).length cap) (zkV s) a g cap:=by
 obtain⟨h1,h2⟩:=zgG s hs
 obtain⟨a,g,cap,rfl,hss,_⟩:=h.shape
 refine⟨a,g,cap,rfl,rfl,hss,?_,?_,by omega,h2⟩
 all_goals
  rcases h.2 with ⟨hv,h0⟩ | ⟨g',cap',cur,hv,_,_,k1,k2,_⟩
  ·injection hv with _ e2 e3
   omega
  ·injection hv with _ _ e3
   unfold maxLen at k2
   omega
theorem OpS.toM {w:World} {S:Nat->Prop} {m:POp} {q:OpQ} (h:OpS w S m q) (hS:∀ k,S k->k < w.heap.size) (hz1:m.path.size<=1048576) (hz2:m.src.size<=1048576) (u:JV) (hu:zc9 m.kind=true->u=q.v) :
  ∃ pa fa pg pc fg fc vt vp,OpM w q.g ⟨m.kind,zkV m.path,zkV m.src,u⟩ (zc9 m.kind) pa fa pg pc fg fc vt vp:=by
 obtain⟨pa,pg,pc,e1,hp⟩:=zug h.path hz1
 obtain⟨fa,fg,fc,e2,hf⟩:=zug h.src hz2
 have hb:=h.blk
 unfold opB at hb
 have c7:w.cell? ⟨q.g,7,none⟩=some q.pv:=yF hb 7
 have c8:w.cell? ⟨q.g,8,none⟩=some q.fv:=yF hb 8
 have c9:w.cell? ⟨q.g,9,none⟩=some q.vv:=yF hb 9
 rw[e1] at c7
 rw[e2] at c8
 cases hv:zc9 m.kind with
 | false=>exact⟨pa,fa,pg,pc,fg,fc,0,.nilIface,hp,hf,c7,c8,fun e=>(by cases e),fun e=>(by cases e)⟩
 | true=>
  obtain⟨_,_,t,p,e3,hr⟩:=h.val hv
  rw[e3] at c9 hr
  refine⟨pa,fa,pg,pc,fg,fc,t,p,hp,hf,c7,c8,fun _=>c9,fun _=>?_⟩
  rw[show u=q.v from hu hv]
  exact Rep.keep (fun _ _=>rfl) hS _ _ hr
theorem zq0:Ent 181:=fun args w=>by simp[callFunc,go_sem,func181,Result.andThen]; rfl
theorem zk7:Ent 182:=fun args w=>by simp[callFunc,go_sem,func182,Result.andThen]; rfl
theorem zjM:Ent 183:=fun args w=>by simp[callFunc,go_sem,func183,Result.andThen]; rfl
theorem zo5:Ent 184:=fun args w=>by simp[callFunc,go_sem,func184,Result.andThen]; rfl
theorem zo6:Ent 185:=fun args w=>by simp[callFunc,go_sem,func185,Result.andThen]; rfl
theorem zo7:Ent 186:=fun args w=>by simp[callFunc,go_sem,func186,Result.andThen]; rfl
def znU:Prop:=∀ (v:JV) (o:XOp) (w:World) (ty:TypeId) (p:Value) (og:Nat) (b:Bool) (pa fa:Option Addr) (pg pc fg fc:Nat) (vt:TypeId) (vp:Value),o.kind=4->RdW w->GdT v->(ct v).length<=200000->TrA w v (.iface ty p)->OpM w og o b pa fa pg pc fg fc vt vp->o.src.length<=1048577->o.path.length<=1048577 ->
 Calls prog 184 #[.iface ty p,.pointer (some ⟨og,0,none⟩)] w (zbI w (doV v o))
theorem zq1 (hEq:zwz) (hMv:znU) (v:JV) (o:XOp) (w:World) (ty:TypeId) (p:Value) {og:Nat} {pa fa:Option Addr} {pg pc fg fc:Nat} {vt:TypeId} {vp:Value} (k1:1<=o.kind) (k6:o.kind<=6) (hw:RdW w) (hv:GdT v) (hl:(ct v).length<=200000) (hu:GdT o.val) (hlu:(ct o.val).length<=1000000) (hr:TrA w v (.iface ty p)) (ho:OpM w og o (zc9 o.kind) pa fa pg pc fg fc vt vp) (hsl:o.src.length<=1048577) (hpl:o.path.length<=1048577) (hgl:∀ m,za0 v o.path=some m->(ct m).length<=1000000) :
  ∃ fid,zd4 o.kind = .func (Fn.func fid) #[] #[]/\Ent fid/\Calls prog fid #[.iface ty p,.pointer (some ⟨og,0,none⟩)] w (zbI w (doV v o)):=by
 have hcs:o.kind=1∨o.kind=2∨o.kind=3∨o.kind=4∨o.kind=5∨o.kind=6:=by omega
 rcases hcs with e | e | e | e | e | e
 ·rw[show zc9 o.kind=true by rw[e]; rfl] at ho
  refine⟨_,by rw[e]; rfl,zq0,?_⟩
  rw[show doV v o=zc4 3 (zet v o.path o.val) by unfold doV; rw[yg e]]
  exact zo4 v o w ty p hw hv (by omega) hr ho
 ·refine⟨_,by rw[e]; rfl,zk7,?_⟩
  rw[show doV v o=zc4 3 (zbQ v o.path) by unfold doV; rw[yf (by omega),yg e]]
  exact zjL v o w ty p hv (by omega) hr ho
 ·rw[show zc9 o.kind=true by rw[e]; rfl] at ho
  refine⟨_,by rw[e]; rfl,zjM,?_⟩
  rw[show doV v o=zc4 3 (zd2 (fun _=>some o.val) v o.path) by unfold doV; rw[yf (by omega),yf (by omega),yg e]]
  exact zip v o w ty p hv (by omega) hr ho
 ·refine⟨_,by rw[e]; rfl,zo5,?_⟩
  exact hMv v o w ty p og _ pa fa pg pc fg fc vt vp e hw hv hl hr ho hsl hpl
 ·refine⟨_,by rw[e]; rfl,zo6,?_⟩
  rw[show doV v o=zk5 v o by unfold doV zk5; rw[yf (by omega),yf (by omega),yf (by omega),yf (by omega),yg e]; cases za0 v o.src <;> rfl]
  exact zmI v o w ty p hw hv (by omega) hr ho hsl
 ·rw[show zc9 o.kind=true by rw[e]; rfl] at ho
  refine⟨_,by rw[e]; rfl,zo7,?_⟩
  rw[show doV v o=zk6 v o by unfold doV zk6; rw[yf (by omega),yf (by omega),yf (by omega),yf (by omega),yf (by omega)]; cases za0 v o.path <;> rfl]
  exact zmJ hEq v o w ty p hv (by omega) hu hlu hr ho hpl hgl
theorem znV {w:World} {S S':Nat->Prop} (a b:JV) (v:Value) (ha:GdT a) (hb:GdT b) (h:Rep w S a v) (h':Rep w S' b v) : ct a=ct b:=by
 induction hn:zaY a using Nat.strongRecOn generalizing a b v with
 | _ n ih=>
  have hty:zd6 a=zd6 b:=by
   obtain⟨q,e⟩:=zgm h
   obtain⟨q',e'⟩:=zgm h'
   rw[e] at e'
   injection e'
  cases a with
  | nul=>cases b with
   | nul=>rfl
   | _=>exact absurd hty (by simp only[zd6]; decide)
  | tt=>cases b with
   | tt=>rfl
   | ff=>rw[Rep] at h; rw[Rep] at h'; rw[h] at h'; injection h' with _ h'; injection h' with h'; cases h'
   | _=>exact absurd hty (by simp only[zd6]; decide)
  | ff=>cases b with
   | ff=>rfl
   | tt=>rw[Rep] at h; rw[Rep] at h'; rw[h] at h'; injection h' with _ h'; injection h' with h'; cases h'
   | _=>exact absurd hty (by simp only[zd6]; decide)
  | num l=>cases b with
   | num m=>
    rw[Rep] at h h'
    obtain⟨z,e,hz,_⟩:=h
    obtain⟨z',e',hz',_⟩:=h'
    rw[e] at e'
    injection e' with _ e'
    injection e' with _ e'
    subst e'
    rw[ct,ct,← hz,← hz']
   | _=>exact absurd hty (by simp only[zd6]; decide)
  | str l=>cases b with
   | str m=>
    rw[Rep] at h h'
    rw[h] at h'
    injection h' with _ h'
    injection h' with h'
    have e:=congrArg (fun b:ByteArray=>b.data.toList) h'
    simp only[zad] at e
    rw[e]
   | _=>exact absurd hty (by simp only[zd6]; decide)
  | arr l=>cases b with
   | arr m=>
    rw[Rep] at h h'
    obtain⟨ab,sv,xs,e,_,hc,hrow,hL⟩:=h
    obtain⟨ab',sv',xs',e',_,hc',hrow',hL'⟩:=h'
    rw[e] at e'
    injection e' with _ e'
    injection e' with e'
    injection e' with e'
    injection e' with e'
    subst e'
    rw[hc] at hc'
    have hsv:sv=sv':=by
     injection hc' with hc'
     injection hc' with hc'
     simpa using hc'
    subst hsv
    obtain⟨a1,g,cap,e1,hg,hcell⟩:=zbD hrow
    obtain⟨a2,g',cap',e2,hg',hcell'⟩:=zbD hrow'
    rw[e1] at e2
    injection e2 with ea el _
    obtain⟨hl,hat⟩:=zbJ l xs hL
    obtain⟨hl',hat'⟩:=zbJ m xs' hL'
    rw[zqi ha hb]
    apply List.ext_getElem
    ·rw[yl,yl]; omega
    ·intro j h1 h2
     rw[yl] at h1 h2
     rw[List.getElem_map,List.getElem_map]
     have j1:j < xs.length:=by omega
     have j2:j < xs'.length:=by omega
     have g1:=(hg (by omega)).1
     have g2:=(hg' (by omega)).1
     have eg:g=g':=by
      have:=g1.symm.trans (ea.trans g2)
      injection this with this
      injection this
     have ex:xs'[j]=xs[j]:=by
      have:=hcell j j1
      rw[eg,hcell' j j2] at this
      injection this
     have hr':=hat' j j2 h2
     rw[ex] at hr'
     have hd:zaY l.toL[j]<=dl l.toL:=zkT (yr _)
     exact ih (zaY l.toL[j]) (by rw[← hn,zaY,ze5]; omega) _ _ xs[j] ((zcq l).1 ha _ (yr _)) ((zcq m).1 hb _ (yr _)) (hat j j1 h1) hr' rfl
   | _=>exact absurd hty (by simp only[zd6]; decide)
  | obj k=>cases b with
   | obj m=>
    rw[Rep] at h h'
    obtain⟨ob,mb,nn,xs,e,_,_,hc,hown,_,hM⟩:=h
    obtain⟨ob',mb',nn',xs',e',_,_,hc',hown',_,hM'⟩:=h'
    rw[e] at e'
    injection e' with _ e'
    injection e' with e'
    injection e' with e'
    injection e' with e'
    subst e'
    rw[hc] at hc'
    have hmb:mb=mb':=by
     injection hc' with hc'
     injection hc' with hc'
     simpa using hc'
    subst hmb
    have hD:zao xs=zao xs':=by
     obtain⟨es,cl,q1,_,_,d1⟩:=hown
     obtain⟨es',cl',q2,_,_,d2⟩:=hown'
     rw[q1] at q2
     injection q2 with q2
     injection q2 with q2 _
     subst q2
     exact d1.trans d2.symm
    obtain⟨hkeys,hrep⟩:=zcr k xs hM
    obtain⟨hkeys',hrep'⟩:=zcr m xs' hM'
    have gk:=(zbi k).1 ha
    have gm:=(zbi m).1 hb
    have hnd:(xs.map (·.1)).Nodup:=by rw[hkeys,zaB]; exact gk.1
    have hnd':(xs'.map (·.1)).Nodup:=by rw[hkeys',zaB]; exact gm.1
    have s1:Maps.size (zao xs)=xs.length:=by rw[zdh (zdg hown hnd),yl]
    have s2:Maps.size (zao xs')=xs'.length:=by rw[zdh (zdg hown' hnd'),yl]
    have l1:xs.length=k.toL.length:=by have:=congrArg List.length hkeys; rw[zaB] at this; simpa using this
    have l2:xs'.length=m.toL.length:=by have:=congrArg List.length hkeys'; rw[zaB] at this; simpa using this
    rw[zqj ha hb]
    refine⟨by rw[hD] at s1; omega,fun q hq=>?_⟩
    obtain⟨x,hx,hr⟩:=hrep q.1 q.2 hq
    have hlast:=zdC xs hnd hx
    have hin:q.1∈m.toL.map (·.1):=by
     have h1:Maps.has (zao xs) (.string q.1)=true:=by
      rw[zcc,List.contains_eq_mem,decide_eq_true_eq]
      exact yO.2 ⟨_,hx,rfl⟩
     rw[hD,zcc,List.contains_eq_mem,decide_eq_true_eq,hkeys',zaB] at h1
     exact h1
    obtain⟨q',hq',eq'⟩:=yO.1 hin
    obtain⟨y,hy,hr'⟩:=hrep' q'.1 q'.2 hq'
    have hlast':=zdC xs' hnd' hy
    have ex:y=x:=by
     have h1:=zda q.1 .nil xs
     have h2:=zda q'.1 .nil xs'
     rw[eq',← hD,h1] at h2
     rw[eq'] at hlast'
     rw[hlast,hlast'] at h2
     injection h2 with h2
     exact h2.symm
    rw[ex] at hr'
    refine⟨q'.2,by rw[← eq']; exact hq',?_⟩
    have hd:zaY q.2<=dl (k.toL.map (·.2)):=zkT (yO.2 ⟨q,hq,rfl⟩)
    exact ih (zaY q.2) (by rw[← hn,zaY,zdL]; omega) _ _ x (gk.2 q hq).2 (gm.2 q' hq').2 hr hr' rfl
   | _=>exact absurd hty (by simp only[zd6]; decide)
theorem zq2 {tp te:TypeId} (hinfo:(prog.info? tp).map (·.comparable)=some true) (hu:prog.underlying tp=some (.pointer te)) (hz:∀ w:World,∃ n,n≠0/\(sizeOf te).run prog w = .ok n w) (a:Nat) (w:World) :
  (binOp .eql 66 (.iface tp (.pointer (some ⟨a,0,none⟩))) (.iface tp (.pointer (some ⟨a,0,none⟩)))).run prog w = .ok (.bool true) w:=by
 obtain⟨i,hi,hc⟩:=yz.1 hinfo
 obtain⟨n,hn,hs⟩:=hz w
 have h0:(sameAddr ⟨a,0,none⟩ ⟨a,0,none⟩).run prog w = .ok true w:=run_sameAddr_same w _
 have h:∀ d:Nat,(Op.equalIn (d+1) tp (.pointer (some ⟨a,0,none⟩)) (.pointer (some ⟨a,0,none⟩))).run prog w = .ok true w:=fun d=>by
  rw[Op.equalIn]; simp[run_underlying hu,hs,hn,h0]
 have h1:∀ d:Nat,(Op.equalIn (d+1+1) 66 (.iface tp (.pointer (some ⟨a,0,none⟩))) (.iface tp (.pointer (some ⟨a,0,none⟩)))).run prog w = .ok true w:=fun d=>by
  rw[Op.equalIn]
  simp[run_underlying underlying66,typeInfo,hi,hc,h d]
 simp only[binOp]
 simp[Op.equal,Op.maxDepth,h1 9998]
theorem zmK {w:World} {a b:JV} {v1 v2:Value} (h1:TrA w a v1) (h2:TrA w b v2) (ga:GdT a) (gb:GdT b) :
  ∃ r,(binOp .eql 66 v1 v2).run prog w = .ok (.bool r) w/\(r=true->ct a=ct b)/\(r=false->zeX a b=false):=by
 have sz:∀ w:World,∃ n,n≠0/\(sizeOf 198).run prog w = .ok n w:=fun w=>⟨1,by decide,by kernel_rfl⟩
 have sz2:∀ w:World,∃ n,n≠0/\(sizeOf 228).run prog w = .ok n w:=fun w=>⟨1,by decide,by kernel_rfl⟩
 have leaf:Rep w (fun _=>False) a v1->∃ r,(binOp .eql 66 v1 v2).run prog w = .ok (.bool r) w/\(r=true->ct a=ct b)/\(r=false->zeX a b=false):=fun h=>
  ⟨zeX a b,zve (fun k hk=>hk.elim) h h2,zvR,id⟩
 have keep1:=h1
 have keep2:=h2
 unfold TrA at h1 h2
 by_cases ht:zd6 a=zd6 b
 ·cases a with
  | nul=>exact leaf (by rw[Rep] at h1 ⊢; exact h1)
  | tt=>exact leaf (by rw[Rep] at h1 ⊢; exact h1)
  | ff=>exact leaf (by rw[Rep] at h1 ⊢; exact h1)
  | num l=>exact leaf (by rw[Rep] at h1 ⊢; exact h1)
  | str l=>exact leaf (by rw[Rep] at h1 ⊢; exact h1)
  | arr l=>cases b with
   | arr m=>
    rw[Rep] at h1 h2
    obtain⟨ab,sv,xs,e1,_,g1,_⟩:=h1
    obtain⟨ab',sv',xs',e2,_,g2,_⟩:=h2
    by_cases e:ab=ab'
    ·subst e
     refine⟨true,by rw[e1,e2]; exact zq2 (by kernel_rfl) underlying195 sz ab w,fun _=>?_,fun h=>by cases h⟩
     exact znV _ _ v1 ga gb keep1 (by rw[e1,← e2]; exact keep2)
    ·subst e1; subst e2
     exact⟨false,znK (by kernel_rfl) underlying195 sz ab ab' e w g1 g2,fun h=>(by cases h),fun _=>rfl⟩
   | _=>exact absurd ht (by simp only[zd6]; decide)
  | obj l=>cases b with
   | obj m=>
    rw[Rep] at h1 h2
    obtain⟨ab,b,nn,xs,e1,_,_,g1,_⟩:=h1
    obtain⟨ab',b',nn',xs',e2,_,_,g2,_⟩:=h2
    by_cases e:ab=ab'
    ·subst e
     refine⟨true,by rw[e1,e2]; exact zq2 (by kernel_rfl) underlying225 sz2 ab w,fun _=>?_,fun h=>by cases h⟩
     exact znV _ _ v1 ga gb keep1 (by rw[e1,← e2]; exact keep2)
    ·subst e1; subst e2
     exact⟨false,znK (by kernel_rfl) underlying225 sz2 ab ab' e w g1 g2,fun h=>(by cases h),fun _=>rfl⟩
   | _=>exact absurd ht (by simp only[zd6]; decide)
 ·obtain⟨q1,rfl⟩:=zgm h1
  obtain⟨q2,rfl⟩:=zgm h2
  exact⟨false,run_eql_iface_types _ _ _ _ underlying66 ht w,fun h=>(by cases h),fun _=>zqD ht⟩
def EqC (a b:JV) : Prop:=∀ (w:World) (ta tb:TypeId) (pa pb:Value),TrA w a (.iface ta pa)->TrA w b (.iface tb pb) ->
 Calls prog 221 #[.iface ta pa,.iface tb pb] w fun e w'=>e = .returned (.bool (decide (ct a=ct b)))/\Below w.heap.size w w'
theorem zyA {w:World} {l:JL} {sv:Value} {xs:List Value} (hrow:zkw w (fun k=>k < w.heap.size) sv xs) (hL:zbS w (fun k=>k < w.heap.size) l xs) :
  ∃ a g cap,sv = .slice a l.toL.length cap/\(0 < l.toL.length->a=some ⟨g,0,none⟩/\g < w.heap.size)/\∀ j (hj:j < l.toL.length),∃ t p,w.cell? ⟨g,j,none⟩=some (.iface t p)/\TrA w l.toL[j] (.iface t p):=by
 obtain⟨a,g,cap,e,hg,hc⟩:=zbD hrow
 obtain⟨hl,hat⟩:=zbJ l xs hL
 refine⟨a,g,cap,by rw[← hl]; exact e,by rw[← hl]; exact hg,fun j hj=>?_⟩
 have hr:=hat j (by omega) hj
 obtain⟨t,p,ep⟩:=za8 hr
 refine⟨t,p,by rw[hc j (by omega),ep],?_⟩
 rw[ep] at hr
 exact hr
theorem zo8 (l m:JL) (hE:∀ u∈l.toL,∀ u'∈m.toL,EqC u u') (w:World) (a1 a2:Option Addr) (g1 g2 c1 c2:Nat) (hl:l.toL.length<=1000000)
  (h1:0 < l.toL.length->a1=some ⟨g1,0,none⟩/\g1 < w.heap.size) (h2:0 < m.toL.length->a2=some ⟨g2,0,none⟩/\g2 < w.heap.size)
  (k1:∀ j (hj:j < l.toL.length),∃ t p,w.cell? ⟨g1,j,none⟩=some (.iface t p)/\TrA w l.toL[j] (.iface t p)) (k2:∀ j (hj:j < m.toL.length),∃ t p,w.cell? ⟨g2,j,none⟩=some (.iface t p)/\TrA w m.toL[j] (.iface t p)) :
  Calls prog 246 #[.slice a1 l.toL.length c1,.slice a2 m.toL.length c2,.func (Fn.func 221) #[] #[]] w fun e w'=>e = .returned (.bool (decide (l.toL.map ct=m.toL.map ct)))/\Below w.heap.size w w':=by
 by_cases hn:l.toL.length=m.toL.length
 ·have HK:Hid (∀ (wr:World) (j:Nat) (hj:j < l.toL.length),Below w.heap.size w wr->∃ t p t' p',wr.cell? ⟨g1,j,none⟩=some (.iface t p)/\wr.cell? ⟨g2,j,none⟩=some (.iface t' p') /\
    Calls prog 221 #[.iface t p,.iface t' p'] wr fun e w'=>e = .returned (.bool (decide (ct (l.toL.getD j .nul)=ct (m.toL.getD j .nul))))/\Below wr.heap.size wr w'):=by
   intro wr j hj hb
   have hj':j < m.toL.length:=by omega
   obtain⟨t,p,e,hr⟩:=k1 j hj
   obtain⟨t',p',e',hr'⟩:=k2 j hj'
   have ej:l.toL.getD j .nul=l.toL[j]:=by simp[List.getD,hj]
   have ej':m.toL.getD j .nul=m.toL[j]:=by simp[List.getD,hj']
   rw[ej,ej']
   exact⟨t,p,t',p',(hb.cell (p:=⟨g1,j,none⟩) (h1 (by omega)).2).trans e,(hb.cell (p:=⟨g2,j,none⟩) (h2 (by omega)).2).trans e',hE _ (yr hj) _ (yr hj') wr t t' p p' (hr.next hb) (hr'.next hb)⟩
  have HA1:Hid (0 < l.toL.length->a1=some ⟨g1,0,none⟩/\a2=some ⟨g2,0,none⟩):=fun h=>⟨(h1 h).1,(h2 (by omega)).1⟩
  have HYES:Hid ((∀ j (hj:j < l.toL.length),ct (l.toL.getD j .nul)=ct (m.toL.getD j .nul))->decide (l.toL.map ct=m.toL.map ct)=true):=fun h=>yj (List.ext_getElem (by simpa using hn) fun j hj _=>by
   rename_i hj'
   rw[yl] at hj hj'
   have:=h j hj
   rw[List.getElem_map,List.getElem_map]
   simpa [List.getD,hj,hj'] using this)
  have HNO:Hid (∀ j (hj:j < l.toL.length),¬ ct (l.toL.getD j .nul)=ct (m.toL.getD j .nul)->decide (l.toL.map ct=m.toL.map ct)=false):=fun j hj h=>yk fun e=>h (by
   have:=congrArg (fun L=>L[j]?) e
   have hj':j < m.toL.length:=by omega
   simp only[List.getElem?_map] at this
   rw[yx hj,yx hj'] at this
   simpa [List.getD,hj,hj'] using this)
  clear hE h1 h2 k1 k2
  generalize hq:(decide (l.toL.map ct=m.toL.map ct))=Q at *
  clear hq
  rw[← hn]
  clear hn
  generalize hN:l.toL.length=N at *
  clear hN
  go_enter func246,ntmps246
  go_wp2_with fail
  go_loopw [17] (fun iv wr=>∃ k:Nat,k<=N/\iv = .int .i64 (k:Int)/\Below w.heap.size w wr/\Hid (∀ j (hj:j < N),j < k->ct (l.toL.getD j .nul)=ct (m.toL.getD j .nul))) (fun iv _=>N - (intOf iv).toNat)
  case atStart=>exact⟨0,yt _,rfl,yH _ _,fun j _ hj=>by omega⟩
  case round=>
   obtain⟨k,hk,rfl,hb,hd⟩:=hrel
   by_cases hlt:k < N
   ·obtain⟨rfl,rfl⟩:=uh HA1 (by omega)
    obtain⟨t,p,t',p',q1,q2,hcall⟩:=uh HK wr k hlt hb
    have HC:=zab hcall
    have HB:=zab hb
    clear hcall hb
    go_wp2_with fail
    refine (uh HC).mono ?_
    rintro e w1 ⟨rfl,b1⟩
    have HB1:=zab (zaa (uh HB) b1)
    clear HC b1 q1 q2 HB
    by_cases he:ct (l.toL.getD k .nul)=ct (m.toL.getD k .nul)
    ·rw[yj he]
     have HD:Hid (∀ j (hj:j < N),j < k+1->ct (l.toL.getD j .nul)=ct (m.toL.getD j .nul)):=fun j hj h=>by
      by_cases ej:j=k
      ·subst ej; exact he
      ·exact uh hd j hj (by omega)
     clear he hd
     go_wp2
     go_roundw
     case rel=>exact⟨k+1,by omega,by go_num,uh HB1,HD⟩
     case measure=>simp[intOf]; omega
    ·rw[yk he]
     have HQ:=zab (uh HNO k hlt he)
     clear he hd
     go_wp2
     go_ret
     exact⟨by rw[uh HQ]; rfl,uh HB1⟩
   ·have HQ:=zab (uh HYES fun j hj=>uh hd j hj (by omega))
    have HB:=zab hb
    clear hd hb
    go_wp2
    go_ret
    exact⟨by rw[uh HQ]; rfl,uh HB⟩
 ·have hq:decide (l.toL.map ct=m.toL.map ct)=false:=yk fun e=>hn (by simpa using congrArg List.length e)
  rw[hq]
  have hne:¬ ((l.toL.length:Int)=(m.toL.length:Int)):=by omega
  clear hq hE k1 k2 h1 h2 hn
  generalize l.toL.length=n1 at *
  generalize m.toL.length=n2 at *
  go_enter func246,ntmps246
  go_wp2
  go_ret
  exact⟨rfl,yH _ _⟩
end Go.Proofs.YtekpghcckdjnhaaGreatDoor
namespace Go.Proofs.YtekpghcckdjnhaaGreatDoor
open Go.RowKit Go.Sort Go.Proofs.Tryz
theorem zmL {m:JM} {q:List UInt8×JV} (h:q∈m.toL) : (quoted q.1).length+1+(ct q.2).length<=(ct (.obj m)).length:=by
 have h1:=zbd m
 have h2:=zdN zdT h
 simp only[zdT] at h2
 unfold hold at h1
 omega
theorem zo9 (k m:JM) (gk:GdT (.obj k)) (gm:GdT (.obj m)) (lk:(ct (.obj k)).length<=1000000) (hE:∀ q∈k.toL,∀ q'∈m.toL,EqC q.2 q'.2) (w:World) (b1 b2 n1 n2:Nat) (xs ys:List (List UInt8×Value))
  (h1:w.ownsMap prog 9 RH b1 n1 (zao xs)) (h2:w.ownsMap prog 9 RH b2 n2 (zao ys)) (r1:zcm w (fun k=>k < w.heap.size) k xs) (r2:zcm w (fun k=>k < w.heap.size) m ys) :
  Calls prog 247 #[.map (some b1),.map (some b2),.func (Fn.func 221) #[] #[]] w fun e w'=>e = .returned (.bool (decide (ct (.obj k)=ct (.obj m))))/\Below w.heap.size w w':=by
 obtain⟨hkeys,hrep⟩:=zcr k xs r1
 obtain⟨hkeys',hrep'⟩:=zcr m ys r2
 have g1:=(zbi k).1 gk
 have g2:=(zbi m).1 gm
 have hnd:(xs.map (·.1)).Nodup:=by rw[hkeys,zaB]; exact g1.1
 have hnd':(ys.map (·.1)).Nodup:=by rw[hkeys',zaB]; exact g2.1
 have l1:xs.length=k.toL.length:=by have:=congrArg List.length hkeys; rw[zaB] at this; simpa using this
 have l2:ys.length=m.toL.length:=by have:=congrArg List.length hkeys'; rw[zaB] at this; simpa using this
 have s1:Maps.size (zao xs)=k.toL.length:=by rw[zdh (zdg h1 hnd),yl,l1]
 have s2:Maps.size (zao ys)=m.toL.length:=by rw[zdh (zdg h2 hnd'),yl,l2]
 have hob:=zqj gk gm
 have hln1:∀ ty,(Builtin.len_ #[226] ty #[.map (some b1)]).run prog w = .ok (.int .i64 (k.toL.length:Int)) w:=fun ty=>by
  have:=h1.len underlying226 ty
  rw[s1] at this
  exact this
 have hln2:∀ ty,(Builtin.len_ #[226] ty #[.map (some b2)]).run prog w = .ok (.int .i64 (m.toL.length:Int)) w:=fun ty=>by
  have:=h2.len underlying226 ty
  rw[s2] at this
  exact this
 have hb1:=h1.lt
 have hb2:=h2.lt
 by_cases hn:k.toL.length=m.toL.length
 ·have HMEM:Hid (∀ (wr:World) (left:Lit->Bool) (x:List UInt8) (c:Value) (kl:Lit) (y1:DataW Value) (y2:List MemPlace),Below w.heap.size w wr->keyOf prog 9 (.string (zac x))=some kl->left kl=true->(left kl=true->Maps.has (zao xs) kl=true)->RH c=some (y1,y2)->(∀ zd,(zao xs).atKey kl zd=y1) ->
    ∃ t p u,kl = .string x/\c = .iface t p/\(x,u)∈k.toL/\((∃ v0,(Instr.lookup 226 (.map (some b2)) (.string (zac x)) true).run prog wr = .ok (.tuple #[v0,.bool false]) wr/\decide (ct (.obj k)=ct (.obj m))=false) ∨
     ∃ t' p' u',(Instr.lookup 226 (.map (some b2)) (.string (zac x)) true).run prog wr = .ok (.tuple #[.iface t' p',.bool true]) wr/\(x,u')∈m.toL/\(¬ ct u=ct u'->decide (ct (.obj k)=ct (.obj m))=false) /\
      Calls prog 221 #[.iface t p,.iface t' p'] wr fun e w'=>e = .returned (.bool (decide (ct u=ct u')))/\Below wr.heap.size wr w')):=by
   intro wr left x c kl y1 y2 hwr hkey hl hh hR hat
   obtain⟨x',hx',hkl,_⟩:=Maps.keyOf_str underlying9 hkey
   have ex:x'=x:=by
    have:Value.string (zac x)=encStr x':=hx'
    simp only[encStr,Value.string.injEq] at this
    have h2:=congrArg (fun b:ByteArray=>b.data.toList) this
    simpa [zac] using h2.symm
   subst ex
   subst hkl
   have hin:=hh hl
   rw[zcc,hkeys] at hin
   simp only[List.contains_eq_mem,decide_eq_true_eq] at hin
   rw[zaB] at hin
   obtain⟨q,hq,hqx⟩:=yO.1 hin
   obtain⟨kk,v⟩:=q
   simp only at hqx
   subst hqx
   obtain⟨x0,hx0,hr⟩:=hrep kk v hq
   have hlast:=zdC xs hnd hx0
   have e1:=(hat (.held .nilIface)).symm.trans (zda kk (.held .nilIface) xs)
   rw[hlast] at e1
   injection hR with hR
   injection hR with hR _
   subst hR
   injection e1 with e1
   subst e1
   obtain⟨t,p,rfl⟩:=za8 hr
   have hkn:kk.length<=10000000:=by have:=zmL hq; have:=zcO kk; simp only at *; omega
   obtain⟨v0,hrun,hv0⟩:=zjj (za1 h2 (hwr.block b2 hb2)) kk hkn
   have hhas:=zg0 kk ys
   refine⟨t,p,v,rfl,rfl,hq,?_⟩
   cases hlk:(zeL ys kk).isSome with
   | false=>
    rw[hlk] at hrun
    refine .inl ⟨v0,hrun,yk fun e=>?_⟩
    obtain⟨u,hu,_⟩:=(hob.1 e).2 _ hq
    rw[hlk,hkeys',zaB] at hhas
    have:kk∈m.toL.map (·.1):=yO.2 ⟨_,hu,rfl⟩
    rw[List.contains_eq_mem,yj this] at hhas
    cases hhas
   | true=>
    rw[hlk] at hrun hhas
    have hin2:kk∈m.toL.map (·.1):=by
     rw[hkeys',zaB] at hhas
     simpa using hhas.symm
    obtain⟨q',hq',eq'⟩:=yO.1 hin2
    obtain⟨k2,u'⟩:=q'
    simp only at eq'
    subst eq'
    obtain⟨y0,hy0,hr'⟩:=hrep' k2 u' hq'
    have hl':=zdC ys hnd' hy0
    have ey:v0=y0:=by have:=(hv0 hlk).symm.trans hl'; injection this
    subst ey
    obtain⟨t',p',rfl⟩:=za8 hr'
    refine .inr ⟨t',p',u',hrun,hq',fun hne=>yk fun e=>?_,hE _ hq _ hq' wr t t' p p' (TrA.next hr hwr) (TrA.next hr' hwr)⟩
    obtain⟨u2,hu2,e2⟩:=(hob.1 e).2 _ hq
    have:(k2,u')=(k2,u2):=zd3 g2.1 hq' hu2 rfl
    injection this with _ this
    exact hne (by rw[this]; exact e2)
  have HZ:Hid (∀ q∈k.toL,Maps.has (zao xs) (.string q.1)=false->∃ u,(q.1,u)∈m.toL/\ct q.2=ct u):=fun q hq h=>by
   rw[zcc,hkeys,zaB,List.contains_eq_mem,decide_eq_false_iff_not] at h
   exact absurd (yO.2 ⟨q,hq,rfl⟩) h
  have HYES:Hid ((∀ q∈k.toL,∃ u,(q.1,u)∈m.toL/\ct q.2=ct u)->decide (ct (.obj k)=ct (.obj m))=true):=fun h=>yj (hob.2 ⟨hn,h⟩)
  have HUQ:Hid (∀ q∈k.toL,∀ q'∈k.toL,q.1=q'.1->q=q'):=fun q hq q' hq' e=>zd3 g1.1 hq hq' e
  have HOW:=zab h1
  rw[← hn] at hln2
  generalize decide (ct (.obj k)=ct (.obj m))=Q at *
  clear hE h1 h2 r1 r2 hkeys hrep hkeys' hrep' g1 g2 hnd hnd' l1 l2 s1 s2 hob hn gk gm lk
  generalize k.toL.length=NN at *
  go_enter func247,ntmps247
  go_wp2_with (first | (at_range; refine wpList_range_own _ rfl _ 226 rfl 9 66 (Maps.string_keyed underlying9) underlying226 RH b1 n1 (zao xs) rfl (uh HOW) ?_; intro w0 hrg0 hg0 hs0) | go_in)
  have B0:Hid (Below w.heap.size w w0):=⟨hg0.os,hg0.tape,hg0.output,hg0.size,fun k hk=>hg0.block k hk (by simp)⟩
  have HRG0:=zab hrg0
  clear hrg0 hg0 hs0 HOW hln1 hln2
  obtain⟨r,hr⟩ : ∃ r,w.heap.size=r:=⟨_,rfl⟩
  have HRR:=zab hr
  rw[hr] at HRG0
  simp only[hr]
  clear hr
  go_frame
  go_loopw [18] (fun _ wr=>∃ left cnt,wr.ranges prog 9 RH b1 r n1 (zao xs) left cnt/\(∀ kl,left kl=true->Maps.has (zao xs) kl=true)/\Below w.heap.size w wr/\Hid (∀ q∈k.toL,left (.string q.1)=false->∃ u,(q.1,u)∈m.toL/\ct q.2=ct u)) (fun _ wr=>wr.rangeLeft b1 r)
  case atStart=>exact⟨_,_,uh HRG0,fun _ h=>h,uh B0,HZ⟩
  case round=>
   obtain⟨left,cnt,hrg,hsub,bw,hd⟩:=hrel
   have HRG:=zab hrg
   have HSUB:=zab hsub
   have HBW:=zab bw
   clear hrg hsub bw HRG0 B0 HZ
   go_wp2_with (first | (at_next; (refine wpList_next_ranges (α:=List UInt8) (β:=Value) _ rfl _ rfl 9 (Maps.string_keyed underlying9) RH (fun x=>.string (zac x)) (fun v=>v) (fun key kl hk=>by obtain⟨x,hx,_⟩:=Maps.keyOf_str underlying9 hk; exact⟨x,hx⟩) (fun v y _=>⟨v,rfl⟩) b1 r n1 (zao xs) left cnt rfl (uh HRG) ?_ ?_)) | go_in)
   ·intro _ hl0
    have HQ:=zab (uh HYES fun q hq=>uh hd q hq (hl0 _))
    clear HMEM HYES hl0 hd HSUB HUQ
    go_wp2
    go_ret
    exact⟨by rw[uh HQ]; rfl,uh HBW⟩
   ·intro x c kl y1 y2 w2 cnt2 hkey hlk hR hat hrg2 hlt hg2 hs2 hen
    have bw2:Below w.heap.size w w2:=(uh HBW).trans (zbl hg2 (by have:=uh HRR; omega) (uh HBW).size)
    obtain⟨t,p,u,rfl,rfl,hu,hcs⟩:=uh HMEM w2 left x c kl y1 y2 bw2 hkey hlk (uh HSUB kl) hR hat
    have HRG2:=zab hrg2
    have HB2:=zab bw2
    have HLT:=zab hlt
    clear hkey hlk hR hat hrg2 hg2 hs2 bw2 HMEM hlt
    rcases hcs with ⟨v0,hrun,hq⟩ | ⟨t',p',u',hrun,hu',hno,hcall⟩
    ·have HQ:=zab hq
     clear hq HYES hd hu
     go_wp2
     go_ret
     exact⟨by rw[uh HQ]; rfl,uh HB2⟩
    ·have HC:=zab hcall
     have HNO:=zab hno
     have HU:=zab hu
     have HU':=zab hu'
     clear hcall hno hu hu'
     go_wp2_with fail
     refine (uh HC).mono ?_
     rintro e w3 ⟨rfl,b3⟩
     have HRG3:=zab ((uh HRG2).kept (⟨b3.os,b3.tape,b3.output,b3.size,fun k hk _=>b3.block k hk⟩ : w2.grownBy w3 none) (by simp) (by simp))
     have HB3:=zab (zaa (uh HB2) b3)
     clear HC b3 hrun hen HB2
     by_cases he:ct u=ct u'
     ·rw[yj he]
      have HD:Hid (∀ q∈k.toL,zbW left x (.string q.1)=false->∃ u,(q.1,u)∈m.toL/\ct q.2=ct u):=fun q hq h=>by
       by_cases ex:q.1=x
       ·have:=uh HUQ q hq (x,u) (uh HU) ex
        subst this
        exact⟨u',uh HU',he⟩
       ·rw[zcn ex] at h
        exact uh hd q hq h
      clear he hd HNO HU HU'
      go_wp2
      go_roundw
      case rel=>exact⟨zbW left x,cnt2,uh HRG3,fun kl h=>uh HSUB kl (by unfold zbW at h; rw[Bool.and_eq_true] at h; exact h.1),uh HB3,HD⟩
      case measure=>rw[(uh HRG3).left_eq,(uh HRG).left_eq]; exact uh HLT
     ·rw[yk he]
      have HQ:=zab (uh HNO he)
      clear he hd HNO HU HU'
      go_wp2
      go_ret
      exact⟨by rw[uh HQ]; rfl,uh HB3⟩
 ·have hq:decide (ct (.obj k)=ct (.obj m))=false:=yk fun e=>hn (hob.1 e).1
  rw[hq]
  have hne:¬ ((k.toL.length:Int)=(m.toL.length:Int)):=by omega
  clear hq hE h1 h2 r1 r2 hkeys hrep hkeys' hrep' g1 g2 hnd hnd' l1 l2 s1 s2 hob hn gk gm lk
  generalize k.toL.length=N1 at *
  generalize m.toL.length=N2 at *
  go_enter func247,ntmps247
  go_wp2
  go_ret
  exact⟨rfl,yH _ _⟩
end Go.Proofs.YtekpghcckdjnhaaGreatDoor
namespace Go.Proofs.YtekpghcckdjnhaaGreatDoor
open Go.RowKit Go.Proofs.Tryz
theorem zq3 (a:Addr) (w:World) : (Instr.typeAssert (.iface 195 (.pointer (some a))) 66 195 true).run prog w = .ok (.tuple #[.pointer (some a),.bool true]) w:=by kernel_rfl
theorem zq4 (a:Addr) (w:World) : (Instr.typeAssert (.iface 225 (.pointer (some a))) 66 225 true).run prog w = .ok (.tuple #[.pointer (some a),.bool true]) w:=by kernel_rfl
theorem zjN {a:JV} (h:∀ l,a≠.arr l) (p:Value) (w:World) : (Instr.typeAssert (.iface (zd6 a) p) 66 195 true).run prog w = .ok (.tuple #[.pointer none,.bool false]) w:=by
 cases a with
 | arr l=>exact absurd rfl (h l)
 | nul=>kernel_rfl
 | tt=>kernel_rfl
 | ff=>kernel_rfl
 | num _=>kernel_rfl
 | str _=>kernel_rfl
 | obj _=>kernel_rfl
theorem znW {a:JV} (h:∀ l,a≠.obj l) (p:Value) (w:World) : (Instr.typeAssert (.iface (zd6 a) p) 66 225 true).run prog w = .ok (.tuple #[.pointer none,.bool false]) w:=by
 cases a with
 | obj l=>exact absurd rfl (h l)
 | nul=>kernel_rfl
 | tt=>kernel_rfl
 | ff=>kernel_rfl
 | num _=>kernel_rfl
 | str _=>kernel_rfl
 | arr _=>kernel_rfl
theorem zq5 (l m:JL) (gl:GdT (.arr l)) (gm:GdT (.arr m)) (ll:(ct (.arr l)).length<=1000000) (hE:∀ u∈l.toL,∀ u'∈m.toL,EqC u u') : EqC (.arr l) (.arr m):=by
 intro w ta tb pa pb ha hb
 obtain⟨rr,hrun,hyes,-⟩:=zmK ha hb gl gm
 unfold TrA at ha hb
 rw[Rep] at ha hb
 obtain⟨ab,sv,xs,e1,sab,hc1,hrow,hL⟩:=ha
 obtain⟨ab',sv',xs',e2,sab',hc2,hrow',hL'⟩:=hb
 injection e1 with e1 e1'
 injection e2 with e2 e2'
 subst e1; subst e1'; subst e2; subst e2'
 obtain⟨a1,g1,c1,rfl,hg1,hk1⟩:=zyA hrow hL
 obtain⟨a2,g2,c2,rfl,hg2,hk2⟩:=zyA hrow' hL'
 have n1:l.toL.length<=1000000:=zfu ll
 have q1:w.cell? ⟨ab,0,none⟩=some (.slice a1 l.toL.length c1):=yF hc1 0
 have q2:w.cell? ⟨ab',0,none⟩=some (.slice a2 m.toL.length c2):=yF hc2 0
 have HS:Hid (Calls prog 246 #[.slice a1 l.toL.length c1,.slice a2 m.toL.length c2,.func (Fn.func 221) #[] #[]] w.drew fun e w'=>e = .returned (.bool (decide (ct (.arr l)=ct (.arr m))))/\Below w.drew.heap.size w.drew w'):=by
  have:=zo8 l m hE w.drew a1 a2 g1 g2 c1 c2 n1 hg1 hg2 (fun j hj=>by obtain⟨t,p,a,b⟩:=hk1 j hj; exact⟨t,p,a,b.next (yH _ _).drew⟩) (fun j hj=>by obtain⟨t,p,a,b⟩:=hk2 j hj; exact⟨t,p,a,b.next (yH _ _).drew⟩)
  rw[show decide (ct (.arr l)=ct (.arr m))=decide (l.toL.map ct=m.toL.map ct) by rw[Bool.eq_iff_iff,decide_eq_true_eq,decide_eq_true_eq]; exact zqi gl gm]
  exact this
 have t1:=zq3 ⟨ab,0,none⟩
 have t2:=zq3 ⟨ab',0,none⟩
 clear hE gl gm ll hc1 hc2 hrow hrow' hL hL' hk1 hk2 hg1 hg2
 generalize l.toL.length=N1 at *
 generalize m.toL.length=N2 at *
 cases rr with
 | true=>
  have HQ:Hid (decide (ct (.arr l)=ct (.arr m))=true):=yj (hyes rfl)
  clear hyes HS
  go_enter func221,ntmps221
  go_wp2
  go_ret
  exact⟨by rw[uh HQ]; rfl,yH _ _⟩
 | false=>
  clear hyes
  generalize decide (ct (.arr l)=ct (.arr m))=Q at *
  go_enter func221,ntmps221
  go_wp2_with fail
  go_region_law (go_simp; refine (uh HS).mono ?_; rintro e w1 ⟨rfl,b1⟩; have HB1:=zab ((yH _ w).drew.trans b1); clear b1 HS)
  all_goals
   go_wp2
   go_ret
   exact⟨rfl,uh HB1⟩
theorem zq6 (k m:JM) (gk:GdT (.obj k)) (gm:GdT (.obj m)) (lk:(ct (.obj k)).length<=1000000) (hE:∀ q∈k.toL,∀ q'∈m.toL,EqC q.2 q'.2) : EqC (.obj k) (.obj m):=by
 intro w ta tb pa pb ha hb
 obtain⟨rr,hrun,hyes,-⟩:=zmK ha hb gk gm
 unfold TrA at ha hb
 rw[Rep] at ha hb
 obtain⟨ab,b1,nn1,xs,e1,_,sb1,hc1,hown,_,hM⟩:=ha
 obtain⟨ab',b2,nn2,ys,e2,_,sb2,hc2,hown',_,hM'⟩:=hb
 injection e1 with e1 e1'
 injection e2 with e2 e2'
 subst e1; subst e1'; subst e2; subst e2'
 have q1:w.cell? ⟨ab,0,none⟩=some (.map (some b1)):=yF hc1 0
 have q2:w.cell? ⟨ab',0,none⟩=some (.map (some b2)):=yF hc2 0
 have HS:Hid (Calls prog 247 #[.map (some b1),.map (some b2),.func (Fn.func 221) #[] #[]] w.drew fun e w'=>e = .returned (.bool (decide (ct (.obj k)=ct (.obj m))))/\Below w.drew.heap.size w.drew w'):=
  zo9 k m gk gm lk hE w.drew b1 b2 nn1 nn2 xs ys hown.drew hown'.drew (zcm.keep (w:=w) (w':=w.drew) (fun _ _=>rfl) (fun _ h=>h) _ _ hM) (zcm.keep (w:=w) (w':=w.drew) (fun _ _=>rfl) (fun _ h=>h) _ _ hM')
 have t1:=zq4 ⟨ab,0,none⟩
 have t2:=zq4 ⟨ab',0,none⟩
 have t3:∀ w:World,(Instr.typeAssert (.iface 225 (.pointer (some ⟨ab,0,none⟩))) 66 195 true).run prog w = .ok (.tuple #[.pointer none,.bool false]) w:=fun w=>zjN (a:=.obj k) (fun _ e=>by cases e) _ w
 clear hE gk gm lk hc1 hc2 hown hown' hM hM'
 cases rr with
 | true=>
  have HQ:Hid (decide (ct (.obj k)=ct (.obj m))=true):=yj (hyes rfl)
  clear hyes HS
  go_enter func221,ntmps221
  go_wp2
  go_ret
  exact⟨by rw[uh HQ]; rfl,yH _ _⟩
 | false=>
  clear hyes
  generalize decide (ct (.obj k)=ct (.obj m))=Q at *
  go_enter func221,ntmps221
  go_wp2_with fail
  go_region_law (go_simp; refine (uh HS).mono ?_; rintro e w1 ⟨rfl,b1⟩; have HB1:=zab ((yH _ w).drew.trans b1); clear b1 HS)
  all_goals
   go_wp2
   go_ret
   exact⟨rfl,uh HB1⟩
theorem zpa (a b:JV) (ga:GdT a) (gb:GdT b) (h1:∀ l m,a = .arr l->b≠.arr m) (h2:∀ l m,a = .obj l->b≠.obj m) : EqC a b:=by
 intro w ta tb pa pb ha hb
 obtain⟨rr,hrun,hyes,hno⟩:=zmK ha hb ga gb
 have ea:ta=zd6 a:=by obtain⟨q,e⟩:=zgm ha; injection e
 have eb:tb=zd6 b:=by obtain⟨q,e⟩:=zgm hb; injection e
 cases rr with
 | true=>
  have HQ:Hid (decide (ct a=ct b)=true):=yj (hyes rfl)
  clear hyes hno ha hb ea eb h1 h2 ga gb
  go_enter func221,ntmps221
  go_wp2
  go_ret
  exact⟨by rw[uh HQ]; rfl,yH _ _⟩
 | false=>
  have HQ:Hid (decide (ct a=ct b)=false):=yk fun e=>by
   rcases zvS ga.ok gb.ok e with h | ⟨l,m,e1,e2⟩ | ⟨l,m,e1,e2⟩
   ·rw[hno rfl] at h; cases h
   ·exact h1 l m e1 e2
   ·exact h2 l m e1 e2
  by_cases xa:∃ l,a = .arr l
  ·obtain⟨l,rfl⟩:=xa
   have t2:∀ w:World,(Instr.typeAssert (.iface (zd6 b) pb) 66 195 true).run prog w = .ok (.tuple #[.pointer none,.bool false]) w:=fun w=>zjN (a:=b) (fun m e=>h1 l m rfl e) pb w
   unfold TrA at ha
   rw[Rep] at ha
   obtain⟨ab,sv,xs,e1,-⟩:=ha
   injection e1 with _ e1
   subst e1
   have t1:=zq3 ⟨ab,0,none⟩
   rw[← eb] at t2
   simp only[zd6] at ea
   subst ea
   clear hyes hno hb h1 h2 ga gb eb
   go_enter func221,ntmps221
   go_wp2_with fail
   go_quiet (fail)
   go_wp2
   go_ret
   exact⟨by rw[uh HQ]; rfl,zeb w _⟩
  ·have t1:∀ w:World,(Instr.typeAssert (.iface (zd6 a) pa) 66 195 true).run prog w = .ok (.tuple #[.pointer none,.bool false]) w:=fun w=>zjN (a:=a) (fun l e=>xa ⟨l,e⟩) pa w
   by_cases xo:∃ l,a = .obj l
   ·obtain⟨l,rfl⟩:=xo
    have t3:∀ w:World,(Instr.typeAssert (.iface (zd6 b) pb) 66 225 true).run prog w = .ok (.tuple #[.pointer none,.bool false]) w:=fun w=>znW (a:=b) (fun m e=>h2 l m rfl e) pb w
    unfold TrA at ha
    rw[Rep] at ha
    obtain⟨ab,mb,nn,xs,e1,-⟩:=ha
    injection e1 with _ e1
    subst e1
    have t2:=zq4 ⟨ab,0,none⟩
    rw[← eb] at t3
    rw[← ea] at t1
    simp only[zd6] at ea
    subst ea
    clear hyes hno hb h1 h2 ga gb xa eb
    go_enter func221,ntmps221
    go_wp2_with fail
    go_quiet (fail)
    go_wp2
    go_ret
    exact⟨by rw[uh HQ]; rfl,zeb w _⟩
   ·have t2:∀ w:World,(Instr.typeAssert (.iface (zd6 a) pa) 66 225 true).run prog w = .ok (.tuple #[.pointer none,.bool false]) w:=fun w=>znW (a:=a) (fun l e=>xo ⟨l,e⟩) pa w
    rw[← ea] at t1 t2
    clear hyes hno ha hb h1 h2 ga gb xa xo ea eb
    go_enter func221,ntmps221
    go_wp2
    go_ret
    exact⟨by rw[uh HQ]; rfl,yH _ _⟩
theorem zq7 (a b:JV) (ga:GdT a) (gb:GdT b) (la:(ct a).length<=1000000) (lb:(ct b).length<=1000000) : EqC a b:=by
 induction hn:zaY a using Nat.strongRecOn generalizing a b with
 | _ n ih=>
  by_cases xa:∃ l m,a = .arr l/\b = .arr m
  ·obtain⟨l,m,rfl,rfl⟩:=xa
   refine zq5 l m ga gb la fun u hu u' hu'=>ih (zaY u) ?_ u u' ((zcq l).1 ga u hu) ((zcq m).1 gb u' hu') ?_ ?_ rfl
   ·have:=zkT hu
    rw[← hn,zaY,ze5]; omega
   ·have:=zqk hu; omega
   ·have:=zqk hu'; omega
  ·by_cases xo:∃ l m,a = .obj l/\b = .obj m
   ·obtain⟨l,m,rfl,rfl⟩:=xo
    refine zq6 l m ga gb la fun q hq q' hq'=>ih (zaY q.2) ?_ q.2 q'.2 (((zbi l).1 ga).2 q hq).2 (((zbi m).1 gb).2 q' hq').2 ?_ ?_ rfl
    ·have:=zkT (yO.2 ⟨q,hq,rfl⟩ : q.2∈l.toL.map (·.2))
     rw[← hn,zaY,zdL]; omega
    ·have:=zmL hq; omega
    ·have:=zmL hq'; omega
   ·exact zpa a b ga gb (fun l m e1 e2=>xa ⟨l,m,e1,e2⟩) (fun l m e1 e2=>xo ⟨l,m,e1,e2⟩)
theorem zhF {a b:List (List UInt8)} : a.map baT=b.map baT↔a=b:=by
 constructor
 ·intro h
  have:=congrArg (List.map fun s:ByteArray=>s.data.toList) h
  rw[List.map_map,List.map_map] at this
  have e:((fun s:ByteArray=>s.data.toList)∘baT)=id:=by funext t; simp[baT]
  rwa [e,List.map_id,List.map_id] at this
 ·intro h; rw[h]
def zeM (v:JV) (o:XOp) : Nat⊕JV:=match za0 v o.src with
 | none=>.inl 3
 | some m=>if o.src=o.path then .inr v else if o.src.isPrefixOf o.path then .inl 6 else match zbQ v o.src with
  | none=>.inl 3
  | some r=>zc4 3 (zet r o.path m)
theorem zte {v:JV} {o:XOp} (h:za0 v o.src=none) : zeM v o = .inl 3:=by unfold zeM; rw[h]
theorem zpb {v m:JV} {o:XOp} (h:za0 v o.src=some m) (e:o.src=o.path) : zeM v o = .inr v:=by unfold zeM; rw[h]; simp only; rw[yg e]
theorem ztf {v m:JV} {o:XOp} (h:za0 v o.src=some m) (e:¬ o.src=o.path) (hp:o.src.isPrefixOf o.path=true) : zeM v o = .inl 6:=by unfold zeM; rw[h]; simp only; rw[yf e,yg hp]
theorem ziT {v m:JV} {o:XOp} (h:za0 v o.src=some m) (e:¬ o.src=o.path) (hp:¬ o.src.isPrefixOf o.path=true) (hd:zbQ v o.src=none) : zeM v o = .inl 3:=by unfold zeM; rw[h]; simp only; rw[yf e,yf hp,hd]
theorem ziU {v m r:JV} {o:XOp} (h:za0 v o.src=some m) (e:¬ o.src=o.path) (hp:¬ o.src.isPrefixOf o.path=true) (hd:zbQ v o.src=some r) : zeM v o=zc4 3 (zet r o.path m):=by unfold zeM; rw[h]; simp only; rw[yf e,yf hp,hd]
theorem zhG {a b:List (List UInt8)} : a.isPrefixOf b=true↔a=b.take a.length:=by
 rw[List.isPrefixOf_iff_prefix,List.prefix_iff_eq_take]
theorem SS.takeT {w:World} {a:Option Addr} {g off:Nat} {ts:List (List UInt8)} (h:SS w a g off (ts.map baT)) (k:Nat) (hk:k<=ts.length) : SS w a g off ((ts.take k).map baT):=by
 refine⟨fun h0=>h.ad ?_,fun j hj=>?_⟩
 ·rw[yl,ym] at h0
  rw[yl]; omega
 ·rw[yl,ym] at hj
  rw[h.cell j (by rw[yl]; omega),zgC (by omega),zgC (by rw[ym]; omega)]
  congr 3
  simp only[List.getD,List.getElem?_take]
  rw[yg (by omega)]
theorem zmM (v:JV) (o:XOp) (w:World) (ty:TypeId) (p:Value) {og:Nat} {b:Bool} {pa fa:Option Addr} {pg pc fg fc:Nat} {vt:TypeId} {vp:Value} (hw:RdW w) (hv:GdT v) (hl:(ct v).length<=200000) (hr:TrA w v (.iface ty p)) (ho:OpM w og o b pa fa pg pc fg fc vt vp) (hsl:o.src.length<=1048577) :
  Calls prog 184 #[.iface ty p,.pointer (some ⟨og,0,none⟩)] w (zbI w (zeM v o)):=by
 have hp:=ho.path
 have hf:=ho.src
 have HV:=zab (zea v hv o.src fa fg 0 fc w ty p hr hf.row hsl hf.tok)
 have HR:Hid (∀ w1,Below w.heap.size w w1->TrA w1 v (.iface ty p)):=fun w1 hx=>hr.next hx
 have HS1:Hid (∀ (X:World) (e:Bool),decide (o.src=o.path)=e->Below w.heap.size w X->Calls prog 220 #[.slice fa o.src.length fc,.slice pa o.path.length pc] X fun e' w'=>e' = .returned (.bool e)/\Below X.heap.size X w'):=by
  intro X e he hx
  have:=zkU (o.src.map baT) (o.path.map baT) fa pa fg 0 fc pg 0 pc X (hf.row.below hx) (hp.row.below hx) (by rw[yl]; omega)
  rw[yl,yl] at this
  refine this.mono ?_
  rintro e' w' ⟨rfl,n,rfl⟩
  exact⟨by rw[← he]; congr 2; simp only[zhF],zeb X n⟩
 have HS2:Hid (∀ (X:World) (e:Bool),o.src.length < o.path.length->o.src.isPrefixOf o.path=e->Below w.heap.size w X->Calls prog 220 #[.slice fa o.src.length fc,.slice pa o.src.length pc] X fun e' w'=>e' = .returned (.bool e)/\Below X.heap.size X w'):=by
  intro X e hlt he hx
  have:=zkU (o.src.map baT) ((o.path.take o.src.length).map baT) fa pa fg 0 fc pg 0 pc X (hf.row.below hx) ((hp.row.below hx).takeT _ (by omega)) (by rw[yl]; omega)
  rw[yl,yl,ym,Nat.min_eq_left (by omega)] at this
  refine this.mono ?_
  rintro e' w' ⟨rfl,n,rfl⟩
  refine⟨?_,zeb X n⟩
  congr 2
  rw[← he,Bool.eq_iff_iff,decide_eq_true_eq,zhF,zhG]
 have HRM:Hid (∀ X,Below w.heap.size w X->Calls prog 216 #[.iface ty p,.slice fa o.src.length fc] X (zbI X (zc4 3 (zbQ v o.src)))):=fun X hx=>
  zfv v o.src fa fg 0 fc X ty p hv (by omega) (hr.next hx) (hf.row.below hx) hf.cap1 hf.cap2 hf.len hf.tok
 have HAD:Hid (∀ (X:World) (r m:JV) t1 p1 t2 p2,Below w.heap.size w X->zbQ v o.src=some r->TrA X r (.iface t1 p1)->TrA X m (.iface t2 p2)->Calls prog 215 #[.iface t1 p1,.slice pa o.path.length pc,.iface t2 p2] X (zbI X (zc4 3 (zet r o.path m)))):=fun X r m t1 p1 t2 p2 hx hd h1 h2=>
  zge r m o.path pa pg 0 pc X t1 t2 p1 p2 (hw.up hx) (zdd hv hd) (by have:=zhf hv hd; omega) h1 h2 (hp.row.below hx) hp.cap1 hp.cap2 hp.len hp.tok
 have HC:Hid (∀ w1,Below w.heap.size w w1->w1.cell? ⟨og,7,none⟩=some (.slice pa o.path.length pc)/\w1.cell? ⟨og,8,none⟩=some (.slice fa o.src.length fc)):=fun w1 hx=>⟨(ho.next hx).c7,(ho.next hx).c8⟩
 have c8:=ho.c8
 have hcap:=hp.cap1
 have hcap2:=hp.cap2
 clear hw hv hr ho hp hf
 generalize hnp:o.path.length=n at *
 generalize hns:o.src.length=k at *
 have HNP:=zab hnp
 have HNS:=zab hns
 clear hnp hns
 go_enter func184,ntmps184
 go_wp2_with fail
 refine (uh HV).mono ?_
 rintro e w1 ⟨b1,⟨c,ev,h1,rfl,h2⟩ | ⟨m,t',q,h1,rfl,h2⟩⟩
 ·have hg:za0 v o.src=none:=by
   cases hq:za0 v o.src with
   | none=>rfl
   | some y=>rw[hq] at h1; cases h1
  rw[hg] at h1
  have hc:c=3:=by injection h1 with h1; exact h1.symm
  subst hc
  have HE:Hid (zbI w (zeM v o) (.returned (.tuple #[.nilIface,ev])) w1):=⟨b1,.inl ⟨3,ev,zte hg,rfl,h2⟩⟩
  obtain⟨fb,rfl,-⟩:=h2
  clear HV HS1 HS2 HRM HAD HC HR b1 h1 hg
  go_wp2
  go_ret2
  exact uh HE
 ·have hg:=zbz h1
  have HG:=zab hg
  have HM:=zab h2
  have HB:=zab b1
  have bd:Below w.heap.size w w1.drew:=b1.drew
  obtain⟨c7,c8'⟩:=uh HC w1 b1
  clear HV b1 h1 h2 hg c8
  by_cases he:o.src=o.path
  ·have HS:=zab (uh HS1 w1.drew true (yj he) bd)
   have HX:=zab (zpb (uh HG) he)
   clear HS1 HS2 HRM HAD HC bd he HM HG
   go_wp2_with fail
   go_region_law (go_simp; refine (uh HS).mono ?_; rintro e w2 ⟨rfl,b2⟩; have HB2:=zab (zaa (uh HB).drew b2); clear b2 HS)
   all_goals
    go_wp2
    go_ret2
    exact⟨uh HB2,.inr ⟨v,_,_,uh HX,rfl,uh HR _ (uh HB2)⟩⟩
  ·have HS:=zab (uh HS1 w1.drew false (yk he) bd)
   have HNE:=zab he
   clear HS1 bd he
   go_wp2_with fail
   go_region_law (go_simp; refine (uh HS).mono ?_; rintro e w2 ⟨rfl,b2⟩; have HB2:=zab (zaa (uh HB).drew b2); have HM2:=zab ((TrA.next (w':=w1.drew) (uh HM) (yH _ _).drew).next b2); clear b2 HS HM c7 c8')
   all_goals
    obtain⟨c7,c8'⟩:=uh HC _ (uh HB2)
    by_cases hlt:k < n
    ·have hltI:(k:Int) < (n:Int):=by omega
     have hkc:k<=pc:=by omega
     have hkI:(k:Int)<=(pc:Int):=by omega
     cases hpx:o.src.isPrefixOf o.path with
     | true=>
      have HS6:=zab (uh HS2 w2.drew true (by have:=uh HNP; have:=uh HNS; omega) hpx (uh HB2).drew)
      have HX:=zab (ztf (uh HG) (uh HNE) hpx)
      have SD:=zab (uh HC w2.drew (uh HB2).drew)
      clear HS2 HRM HAD HR HM2 HNP HNS hpx
      go_wp2_with fail
      go_region_held3 (fun w'=>w'.cell? ⟨og,7,none⟩=some (.slice pa n pc)/\w'.cell? ⟨og,8,none⟩=some (.slice fa k fc)) (first | exact uh S3 | exact uh SD) (first | (go_simp; refine (uh HS6).mono ?_; rintro e w3 ⟨rfl,b3⟩; have HB3:=zab (zaa (uh HB2).drew b3); have S3:=zab (uh HC w3 (uh HB3)); clear b3 HS6))
      all_goals
       go_wp2
       go_ret2
       exact⟨zaa (uh HB3) (zag _ _),.inl ⟨6,_,uh HX,rfl,_,rfl,yG _ _⟩⟩
     | false=>
      have HS6:=zab (uh HS2 w2.drew false (by have:=uh HNP; have:=uh HNS; omega) hpx (uh HB2).drew)
      have HNP2:Hid (¬ o.src.isPrefixOf o.path=true):=by rw[hpx]; exact fun h=>by cases h
      have SD:=zab (uh HC w2.drew (uh HB2).drew)
      clear HS2 HNP HNS hpx
      go_wp2_with fail
      go_region_held3 (fun w'=>w'.cell? ⟨og,7,none⟩=some (.slice pa n pc)/\w'.cell? ⟨og,8,none⟩=some (.slice fa k fc)) (first | exact uh S3 | exact uh SD) (first | (go_simp; refine (uh HS6).mono ?_; rintro e w3 ⟨rfl,b3⟩; have HB3:=zab (zaa (uh HB2).drew b3); have HM3:=zab ((TrA.next (w':=w2.drew) (uh HM2) (yH _ _).drew).next b3); have S3:=zab (uh HC w3 (uh HB3)); clear b3 HS6 HM2 c7 c8'))
      all_goals
       have b3:=uh HB3
       have HRM3:=zab (uh HRM _ b3)
       obtain⟨-,c8'⟩:=uh HC _ b3
       clear HRM b3
       go_wp2_with fail
       refine (uh HRM3).mono ?_
       rintro e w4 ⟨b4,⟨c,ev,h1,rfl,h2⟩ | ⟨r,t4,q4,h1,rfl,h2⟩⟩
       ·have hd:zbQ v o.src=none:=by
         cases hq:zbQ v o.src with
         | none=>rfl
         | some y=>rw[hq] at h1; cases h1
        rw[hd] at h1
        have hc:c=3:=by injection h1 with h1; exact h1.symm
        subst hc
        have HE:Hid (zbI w (zeM v o) (.returned (.tuple #[.nilIface,ev])) w4):=⟨zaa (uh HB3) b4,.inl ⟨3,ev,ziT (uh HG) (uh HNE) (uh HNP2) hd,rfl,h2⟩⟩
        obtain⟨fb,rfl,-⟩:=h2
        clear HAD HC HR HRM3 b4 h1 hd HB3 HM3
        go_wp2
        go_ret2
        exact uh HE
       ·have hd:=zbz h1
        have b04:=zaa (uh HB3) b4
        have HAD4:=zab (uh HAD w4 r m t4 q4 t' q b04 hd h2 ((uh HM3).next b4))
        have HX:=zab (ziU (uh HG) (uh HNE) (uh HNP2) hd)
        obtain⟨c7,-⟩:=uh HC w4 b04
        have HB4:=zab b04
        clear HAD HC HR HRM3 b4 h1 h2 hd b04 HB3 HM3 c8'
        go_wp2_with fail
        refine (uh HAD4).mono ?_
        rintro e w5 hP
        obtain⟨x,y,rfl,hQ⟩:=zbI.two hP
        have HQ:=zab (zbI.from (uh HB4) hQ)
        clear hP hQ HAD4 HB4
        go_wp2
        go_ret2
        rw[uh HX]
        exact uh HQ
    ·have hnltI:¬ (k:Int) < (n:Int):=by omega
     have HNP2:Hid (¬ o.src.isPrefixOf o.path=true):=fun h=>uh HNE (by
      have e:=zhG.1 h
      have h1:=uh HNP
      have h2:=uh HNS
      rwa [yq (by omega)] at e)
     clear HS2 HNP HNS
     go_wp2_with fail
     go_quiet (fail)
     have HB3:Hid (Below w.heap.size w (w2.drewN nq)):=za4 (uh HB2) nq
     have HM3:Hid (TrA (w2.drewN nq) m (.iface t' q)):=TrA.next (uh HM2) (zeb w2 nq)
     clear HM2 HB2 c7 c8'
     have b3:=uh HB3
     have HRM3:=zab (uh HRM _ b3)
     obtain⟨-,c8'⟩:=uh HC _ b3
     clear HRM b3
     go_wp2_with fail
     refine (uh HRM3).mono ?_
     rintro e w4 ⟨b4,⟨c,ev,h1,rfl,h2⟩ | ⟨r,t4,q4,h1,rfl,h2⟩⟩
     ·have hd:zbQ v o.src=none:=by
       cases hq:zbQ v o.src with
       | none=>rfl
       | some y=>rw[hq] at h1; cases h1
      rw[hd] at h1
      have hc:c=3:=by injection h1 with h1; exact h1.symm
      subst hc
      have HE:Hid (zbI w (zeM v o) (.returned (.tuple #[.nilIface,ev])) w4):=⟨zaa (uh HB3) b4,.inl ⟨3,ev,ziT (uh HG) (uh HNE) (uh HNP2) hd,rfl,h2⟩⟩
      obtain⟨fb,rfl,-⟩:=h2
      clear HAD HC HR HRM3 b4 h1 hd HB3 HM3
      go_wp2
      go_ret2
      exact uh HE
     ·have hd:=zbz h1
      have b04:=zaa (uh HB3) b4
      have HAD4:=zab (uh HAD w4 r m t4 q4 t' q b04 hd h2 ((uh HM3).next b4))
      have HX:=zab (ziU (uh HG) (uh HNE) (uh HNP2) hd)
      obtain⟨c7,-⟩:=uh HC w4 b04
      have HB4:=zab b04
      clear HAD HC HR HRM3 b4 h1 h2 hd b04 HB3 HM3 c8'
      go_wp2_with fail
      refine (uh HAD4).mono ?_
      rintro e w5 hP
      obtain⟨x,y,rfl,hQ⟩:=zbI.two hP
      have HQ:=zab (zbI.from (uh HB4) hQ)
      clear hP hQ HAD4 HB4
      go_wp2
      go_ret2
      rw[uh HX]
      exact uh HQ
theorem zwA:znU:=fun v o w ty p og b pa fa pg pc fg fc vt vp hk hw hv hl hr ho hsl _=>by
 have e:doV v o=zeM v o:=by
  unfold doV zeM
  rw[yf (by omega),yf (by omega),yf (by omega),yg hk]
  rfl
 rw[e]
 exact zmM v o w ty p hw hv hl hr ho hsl
end Go.Proofs.YtekpghcckdjnhaaGreatDoor
