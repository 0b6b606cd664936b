import Derived.Test.YtekpghcckdjnhaaGreatDoorBa19
import Derived.Test.YtekpghcckdjnhaaGreatDoorBa13
set_option maxRecDepth 100000
set_option maxHeartbeats 8000000
namespace Go.Proofs.YtekpghcckdjnhaaGreatDoor
open Go.RowKit Go.Proofs.Tryz
def zsc:JV->Option (List UInt8)
 | .str l=>some l
 | _=>none
def zbm (v:JV) (key:List UInt8) : Option (List UInt8):=(zal v key).bind zsc
def zaM (t:List UInt8) : Int:=if t=zcZ 1 then 1 else if t=zcZ 2 then 2 else if t=zcZ 3 then 3 else if t=zcZ 4 then 4 else if t=zcZ 5 then 5 else if t=zcZ 6 then 6 else 0
theorem zg6 {t:List UInt8} {k:Int} (h1:1<=k) (h6:k<=6) : (zcZ k == t)=(k == zaM t):=by
 have hk:k=1∨k=2∨k=3∨k=4∨k=5∨k=6:=by omega
 have d:∀ a b:List UInt8,(a == b)=decide (a=b):=fun a b=>by rw[Bool.eq_iff_iff,yC,decide_eq_true_eq]
 rw[d]
 unfold zaM
 rcases hk with rfl | rfl | rfl | rfl | rfl | rfl
 all_goals (
  by_cases e1:t=zcZ 1
  ·subst e1; decide
  ·rw[yf e1]
   by_cases e2:t=zcZ 2
   ·subst e2; decide
   ·rw[yf e2]
    by_cases e3:t=zcZ 3
    ·subst e3; decide
    ·rw[yf e3]
     by_cases e4:t=zcZ 4
     ·subst e4; decide
     ·rw[yf e4]
      by_cases e5:t=zcZ 5
      ·subst e5; decide
      ·rw[yf e5]
       by_cases e6:t=zcZ 6
       ·subst e6; decide
       ·rw[yf e6]
        rw[yk (fun e=>by first | exact e1 e.symm | exact e2 e.symm | exact e3 e.symm | exact e4 e.symm | exact e5 e.symm | exact e6 e.symm)]
        decide)
theorem zd1 (t:List UInt8) : 0<=zaM t/\zaM t<=6:=by
 unfold zaM
 repeat' split
 all_goals omega
def zer (v:JV) : Int:=match zbm v kOp with
 | some t=>zaM t
 | none=>0
def zdU (v:JV) : POp:=⟨zer v,zac ((zbm v zcp).getD []),if zfN (zer v) then zac ((zbm v zcG).getD []) else ⟨#[]⟩,if zc9 (zer v) then zac (((zal v zb3).map ct).getD []) else ⟨#[]⟩⟩
def zaT (v:JV) : Bool:=decide (zer v≠0) && (zbm v zcp).isSome && (!zfN (zer v) || (zbm v zcG).isSome) && (!zc9 (zer v) || (zal v zb3).isSome) &&
 (zar ((zbm v zcp).getD [])).isSome && (!zfN (zer v) || (zar ((zbm v zcG).getD [])).isSome)
theorem zu1 {v:JV} (h:kd v≠6) : ∀ key∈[kOp,zcp,zcG,zb3],zal v key=none:=by
 intro key hk
 cases v with
 | obj m=>exact absurd rfl h
 | arr l=>
  rw[zay]
  have:zgh key=none:=by
   simp only[List.mem_cons,List.not_mem_nil,or_false] at hk
   rcases hk with rfl | rfl | rfl | rfl <;> decide
  rw[this]; rfl
 | nul=>rfl
 | tt=>rfl
 | ff=>rfl
 | num l=>rfl
 | str l=>rfl
theorem zp3 {v:JV} (h:kd v≠6) : zaT v=false:=by
 have:=zu1 h kOp (by simp)
 have e:zer v=0:=by unfold zer zbm; rw[this]; rfl
 unfold zaT
 rw[e]
 rfl
theorem zoH (v:JV) : 0<=zer v/\zer v<=6:=by
 unfold zer
 split
 ·exact zd1 _
 ·omega
theorem zu2 {v:JV} (hK:zer v≠0) (hp:(zbm v zcp).isSome=true) (hf:zfN (zer v)=true->(zbm v zcG).isSome=true) (hv:zc9 (zer v)=true->∃ u,zal v zb3=some u/\zbp (zac (ct u))=true) : zdv (zdU v)=zaT v:=by
 obtain⟨h0,h6⟩:=zoH v
 have e1:decide (1<=zer v)=true:=yj (by omega)
 have e2:decide (zer v<=6)=true:=yj h6
 have e3:decide (zer v≠0)=true:=yj hK
 have ee:(⟨#[]⟩ : ByteArray).toList=[]:=by rw[ByteArray.toList_eq]
 unfold zdv zaT zdU
 simp only[e1,e2,e3,hp,Bool.true_and,zad]
 cases hF:zfN (zer v) with
 | true=>
  have hV:zc9 (zer v)=false:=by
   unfold zfN at hF
   unfold zc9
   simp only[Bool.or_eq_true,yC] at hF
   rcases hF with h | h <;> rw[h] <;> rfl
  have h1:=hf hF
  simp[hV,h1,ee,zad]
 | false=>
  cases hV:zc9 (zer v) with
  | true=>
   obtain⟨u,hu,hg⟩:=hv hV
   simp[hu,hg,ee]
  | false=>simp[ee]
theorem zp4 {u:JV} (h:okV u) (h0:0 < (zac (ct u)).size) : ((((zac (ct u))[0]).toNat:Int) != 34) = !(kd u == 4):=by
 obtain⟨c,r,e,f⟩:=zlB h
 have hb:((zac (ct u))[0]).toNat=c.toNat:=by
  rw[← zas _ 0 h0,e]
  exact (zb0 (c:=c) (r:=r)).2
 rw[hb,← f]
 unfold fb
 by_cases h1:c.toNat=34
 ·rw[h1]; rfl
 ·have a1:((c.toNat:Int) != 34)=true:=by simp; omega
  rw[a1]
  symm
  rw[Bool.not_eq_true',yd]
  repeat (first | (split; omega) | split)
  all_goals omega
theorem zp5 {u:JV} (h:okV u) : 0 < (zac (ct u)).size:=by
 rw[zaf]
 cases e:ct u with
 | nil=>exact absurd e (ztE u h)
 | cons _ _=>simp
theorem zmd {B:Nat} (m:JM) (hok:okV (.obj m)) (htw:twV (.obj m)=false) (hl:(ct (.obj m)).length<=1000000) (key:List UInt8) (pv:Value) (w:World) (h:PR w B pv (zae (.obj m))) :
  Calls prog 87 #[pv,.string (zac key)] w fun e w'=>e = .returned (.tuple #[.string (zac ((zbm (.obj m) key).getD [])),.bool (zbm (.obj m) key).isSome])/\Below w.heap.size w w':=by
 have hpl:=zbq hok hl
 have HF:=zab (zg4 B pv (zae (.obj m)) key w h (by omega))
 obtain⟨xa,xc,rfl⟩ : ∃ xa xc,pv = .slice xa (zae (.obj m)).length xc:=by
  rcases h.2 with ⟨hv,h0⟩ | ⟨g,cap,cur,hv,_⟩
  ·exact⟨none,0,by rw[hv,h0]⟩
  ·exact⟨_,_,hv⟩
 have HC:Hid (∀ j (hj:j < (zae (.obj m)).length),∃ g,xa=some ⟨g,0,none⟩/\w.cell? ⟨g,j*2+1,none⟩=some (.string (zac (zae (.obj m))[j].2))):=fun j hj=>by
  obtain⟨g,cap,hv,_,_,_,hc⟩:=h.cells j hj
  injection hv with hv _ _
  exact⟨g,hv,hc⟩
 have HNO:Hid ((∀ j (hj:j < (zae (.obj m)).length),(zae (.obj m))[j].1≠key)->zbm (.obj m) key=none):=fun hk=>by unfold zbm; rw[zcX hk]; rfl
 have HYES:Hid (∀ j (hj:j < (zae (.obj m)).length),(zae (.obj m))[j].1=key->∃ u,(zae (.obj m))[j].2=ct u/\zbm (.obj m) key=zsc u/\okV u/\(ct u).length<=1000000):=fun j hj hk=>by
  obtain⟨u,h1,h2⟩:=zdO hok htw (fun ⟨l,e⟩=>by cases e) hj hk
  obtain⟨a1,_,a3,_⟩:=zbG h1 hok htw
  exact⟨u,h2,by unfold zbm; rw[h1]; rfl,a1,by omega⟩
 clear h hok htw hl
 generalize zae (.obj m)=ps at *
 generalize zbm (.obj m) key=sm at *
 go_enter func87,ntmps87
 go_wp2_with fail
 refine (uh HF).mono ?_
 rintro e w1 ⟨rfl,⟨rfl,hk⟩ | ⟨j,hj,rfl,hk⟩⟩
 ·obtain rfl:=uh HNO hk
  clear HF HC HNO HYES hk
  go_wp2
  go_ret2
  exact⟨rfl,yH _ _⟩
 ·obtain⟨u,h1,rfl,h3,h4⟩:=uh HYES j hj hk
  obtain⟨g,rfl,hc⟩:=uh HC j hj
  have hjI:(j:Int) < (ps.length:Int):=by omega
  rw[h1] at hc
  have h0:=zp5 h3
  have h0I:(0:Int) < ((zac (ct u)).size:Int):=by omega
  have hfs:=zp4 h3 h0
  clear HF HC HNO HYES hk h1
  by_cases hk4:kd u=4
  ·obtain⟨l,rfl⟩ : ∃ l,u = .str l:=by cases u <;> first | exact⟨_,rfl⟩ | (simp[kd] at hk4)
   have hval:Lib.validD l=true:=by rw[okV] at h3; exact h3
   have hq:=zc2 l (zac (ct (.str l))) [] hval 0 (by rw[zad,List.drop_zero,List.append_nil]; rfl)
   have HS:=zab (zbv (zac (ct (.str l))) 0 w (by rw[zaf]; omega) (by omega))
   rw[hq] at HS
   rw[show (!(kd (.str l) == 4))=false from rfl] at hfs
   have HU:Hid (zsc (.str l)=some l):=rfl
   clear hq hval h3 h4 hk4
   generalize zac (ct (.str l))=T at *
   go_wp2_with fail
   refine (uh HS).mono ?_
   rintro e w2 ⟨b2,he⟩
   obtain rfl:e = .returned (.tuple #[.string (zac l),.int .i64 ((0+(quoted l).length:Nat) : Int),.bool true]):=he
   have HB:=zab b2
   clear HS b2
   generalize 0+(quoted l).length=q9 at *
   go_wp2
   go_ret2
   exact⟨by rw[uh HU]; rfl,uh HB⟩
  ·have hno:(!(kd u == 4))=true:=by simp[hk4]
   rw[hno] at hfs
   have HU:Hid (zsc u=none):=by show _=_; cases u <;> first | rfl | exact absurd rfl hk4
   clear h3 h4 hk4 hno
   generalize zac (ct u)=T at *
   go_wp2
   go_ret2
   exact⟨by rw[uh HU]; rfl,yH _ _⟩
structure GdV (v:JV) : Prop where
 rd:rdV v
 big:zbf v=false
 dep:zaY v<=100
 cnt:zaA v<=3000
 tw:twV v=false
 ok:okV v
 len:(ct v).length<=20000
theorem zme:∀ {l:JL} {u:JV},rdL l->zeG l=false->u∈l.toL->rdV u/\zbf u=false/\zaY u<=zn4 l
 | .nil,u,_,_,h=>by simp[JL.toL] at h
 | .cons v r,u,h1,h2,h=>by
  rw[rdL] at h1
  rw[zeG,Bool.or_eq_false_iff] at h2
  rw[JL.toL,List.mem_cons] at h
  rw[zn4]
  rcases h with rfl | h
  ·exact⟨h1.1,h2.1,Nat.le_max_left _ _⟩
  ·obtain⟨a,b,c⟩:=zme h1.2 h2.2 h
   exact⟨a,b,yP c (Nat.le_max_right _ _)⟩
theorem zp6:∀ {l:JM} {k:List UInt8} {u:JV},rdM l->zds l=false->(k,u)∈l.toL->rdV u/\zbf u=false/\zaY u<=zlV l
 | .nil,k,u,_,_,h=>by simp[JM.toL] at h
 | .cons k' v r,k,u,h1,h2,h=>by
  rw[rdM] at h1
  rw[zds,Bool.or_eq_false_iff] at h2
  rw[JM.toL,List.mem_cons] at h
  rw[zlV]
  rcases h with h | h
  ·injection h with _ h
   subst h
   exact⟨h1.2.1,h2.1,Nat.le_max_left _ _⟩
  ·obtain⟨a,b,c⟩:=zp6 h1.2.2 h2.2 h
   exact⟨a,b,yP c (Nat.le_max_right _ _)⟩
theorem GdV.child {v u:JV} {t:List UInt8} (h:GdV v) (hc:zal v t=some u) : GdV u:=by
 obtain⟨a1,a2,a3,a4⟩:=zbG hc h.ok h.tw
 have hl:=h.len
 have hn:=h.cnt
 have hd:=h.dep
 have key:rdV u/\zbf u=false/\zaY u<=zaY v:=by
  cases v with
  | arr l=>
   rw[zay] at hc
   obtain⟨i,_,hi⟩:=Option.bind_eq_some_iff.1 hc
   have:=zme h.rd h.big (List.mem_of_getElem? hi)
   exact⟨this.1,this.2.1,by rw[zaY]; omega⟩
  | obj m=>
   rw[zbe] at hc
   obtain⟨q,hq,e⟩:=yz.1 hc
   have:=zp6 (k:=q.1) (u:=q.2) h.rd h.big (List.mem_of_find?_eq_some hq)
   rw[← e]
   exact⟨this.1,this.2.1,by rw[zaY]; omega⟩
  | _=>cases hc
 exact⟨key.1,key.2.1,by omega,by omega,a2,a1,by omega⟩
theorem GdV.good {v:JV} (h:GdV v) : zbp (zac (ct v))=true:=by
 rw[zsr h.rd h.big h.tw]
 exact yj ⟨h.dep,h.cnt,h.len⟩
theorem GdV.of {s:ByteArray} {v:JV} (h:zaZ s = .inr v) : GdV v:=by
 obtain⟨h1,h2,h3,h4,h5,h6⟩:=zi2 h
 exact⟨zvW h2,h4,h5,h6,h3,(zfF h2).1,by have:=zrV h2; omega⟩
theorem GdV.item {l:JL} {u:JV} (h:GdV (.arr l)) (hu:u∈l.toL) : GdV u:=by
 obtain⟨j,hj,rfl⟩:=List.mem_iff_getElem.1 hu
 have hlt:j < (ziv 0 l.toL).length:=by rw[zgN]; exact hj
 have hm:(zb5 j,l.toL[j])∈zh4 (.arr l):=by
  have e:=zna l.toL 0 j hlt
  rw[Nat.zero_add] at e
  show _∈ziv 0 l.toL
  rw[← e]
  exact yr hlt
 obtain⟨o1,o2,o3,o4⟩:=zrL h.ok h.tw hm
 simp only at o1 o2 o3 o4
 have hr:=zme h.rd h.big hu
 have h1:=zj8 (.arr l)
 have h2:zaA l.toL[j]<=_:=zdN (fun q=>zaA q.2) hm
 have hd:=h.dep
 have hc:=h.cnt
 have hl:=h.len
 exact⟨hr.1,hr.2.1,by omega,by omega,o2,o1,by omega⟩
def dcR (s:ByteArray) : List POp×Int×Int:=match zaZ s with
 | .inl _=>([],1,0)
 | .inr (.arr l)=>if 100 < l.toL.length then ([],3,100) else match l.toL.findIdx? (fun v=>!zaT v) with
  | some i=>([],4,i)
  | none=>(l.toL.map zdU,0,0)
 | .inr _=>([],2,0)
theorem zu3 (s:ByteArray) : (dcR s).1.length<=100:=by
 unfold dcR
 repeat' split
 all_goals first | exact yt _ | (simp only[yl]; omega)
structure GdT (v:JV) : Prop where
 rd:rdV v
 big:zbf v=false
 tw:twV v=false
 ok:okV v
theorem GdV.t {v:JV} (h:GdV v) : GdT v:=⟨h.rd,h.big,h.tw,h.ok⟩
theorem zjl:∀ l:JL,okL l↔∀ v∈l.toL,okV v
 | .nil=>by rw[okL]; simp[JL.toL]
 | .cons v r=>by rw[okL,zjl r,JL.toL]; simp
theorem zjm:∀ m:JM,okM m↔∀ q∈m.toL,Lib.validD q.1=true/\okV q.2
 | .nil=>by rw[okM]; simp[JM.toL]
 | .cons k v r=>by rw[okM,zjm r,JM.toL]; simp[and_assoc]
theorem zp7 (m:JM) : zds m=false↔∀ q∈m.toL,zbf q.2=false:=by
 constructor
 ·intro h q hq
  cases hb:zbf q.2 with
  | false=>rfl
  | true=>rw[(zfJ m).2 ⟨q,hq,hb⟩] at h; cases h
 ·intro h
  cases hb:zds m with
  | false=>rfl
  | true=>obtain⟨q,hq,e⟩:=(zfJ m).1 hb; rw[h q hq] at e; cases e
theorem zcq (l:JL) : GdT (.arr l)↔∀ u∈l.toL,GdT u:=by
 constructor
 ·rintro⟨h1,h2,h3,h4⟩ u hu
  rw[rdV,zl4] at h1
  rw[zbf,zji] at h2
  rw[twV,zl5] at h3
  rw[okV,zjl] at h4
  exact⟨h1 u hu,h2 u hu,h3 u hu,h4 u hu⟩
 ·intro h
  refine⟨?_,?_,?_,?_⟩
  ·rw[rdV,zl4]; exact fun u hu=>(h u hu).rd
  ·rw[zbf,zji]; exact fun u hu=>(h u hu).big
  ·rw[twV,zl5]; exact fun u hu=>(h u hu).tw
  ·rw[okV,zjl]; exact fun u hu=>(h u hu).ok
theorem zbi (m:JM) : GdT (.obj m)↔(m.toL.map (·.1)).Nodup/\∀ q∈m.toL,Lib.validD q.1=true/\GdT q.2:=by
 constructor
 ·rintro⟨h1,h2,h3,h4⟩
  rw[rdV,zka] at h1
  rw[zbf,zp7] at h2
  rw[twV,zh7] at h3
  rw[okV,zjm] at h4
  exact⟨h3.2.1,fun q hq=>⟨(h1 q hq).1,(h1 q hq).2,h2 q hq,h3.1 q hq,(h4 q hq).2⟩⟩
 ·rintro⟨h0,h⟩
  refine⟨?_,?_,?_,?_⟩
  ·rw[rdV,zka]; exact fun q hq=>⟨(h q hq).1,(h q hq).2.rd⟩
  ·rw[zbf,zp7]; exact fun q hq=>(h q hq).2.big
  ·rw[twV,zh7]; exact⟨fun q hq=>(h q hq).2.tw,h0,fun q _=>by simp⟩
  ·rw[okV,zjm]; exact fun q hq=>⟨(h q hq).1,(h q hq).2.ok⟩
theorem GdT.child {v u:JV} {t:List UInt8} (h:GdT v) (hc:zal v t=some u) : GdT u:=by
 cases v with
 | arr l=>
  rw[zay] at hc
  obtain⟨i,_,hi⟩:=Option.bind_eq_some_iff.1 hc
  exact (zcq l).1 h u (List.mem_of_getElem? hi)
 | obj m=>
  rw[zbe] at hc
  obtain⟨q,hq,e⟩:=yz.1 hc
  rw[← e]
  exact (((zbi m).1 h).2 q (List.mem_of_find?_eq_some hq)).2
 | _=>cases hc
theorem zcS (v:JV) : za0 v []=some v:=by simp[za0]
theorem zbV (v:JV) (t:List UInt8) (ts:List (List UInt8)) : za0 v (t :: ts)=(zal v t).bind fun u=>za0 u ts:=by rw[za0]
theorem GdT.get:∀ {ts:List (List UInt8)} {v u:JV},GdT v->za0 v ts=some u->GdT u
 | [],v,u,h,e=>by
  rw[zcS] at e
  injection e with e
  subst e
  exact h
 | t :: ts,v,u,h,e=>by
  rw[zbV] at e
  cases hc:zal v t with
  | none=>rw[hc] at e; cases e
  | some x=>rw[hc] at e; exact GdT.get (h.child hc) e
def zby (v:JV) (t:List UInt8) (u:JV) : JV:=match v with
 | .arr l=>match zgh t with
  | some i=>.arr (JL.ofL (l.toL.set i u))
  | none=>.arr l
 | .obj m=>.obj (JM.ofL (m.toL.map fun q=>if q.1=t then (q.1,u) else q))
 | v=>v
def za6 (v:JV) (t:List UInt8) : JV:=match v with
 | .arr l=>match zgh t with
  | some i=>.arr (JL.ofL (l.toL.eraseIdx i))
  | none=>.arr l
 | .obj m=>.obj (JM.ofL (m.toL.filter fun q=>!(q.1 == t)))
 | v=>v
def za7 (v:JV) (t:List UInt8) (u:JV) : Option JV:=match v with
 | .arr l=>match (if t=[45] then some l.toL.length else zgh t) with
  | some i=>if i<=l.toL.length then some (.arr (JL.ofL (l.toL.take i++u :: l.toL.drop i))) else none
  | none=>none
 | .obj m=>if Lib.validD t=true then some (if (zal (.obj m) t).isSome then zby (.obj m) t u else .obj (JM.ofL (m.toL++[(t,u)]))) else none
 | _=>none
def zcT:JV->List (List UInt8)->JV->JV
 | _,[],u=>u
 | v,t :: ts,u=>match zal v t with
  | some c=>zby v t (zcT c ts u)
  | none=>v
theorem zes (v u:JV) : zcT v [] u=u:=by rw[zcT]
theorem zdA {v c:JV} {t:List UInt8} {ts:List (List UInt8)} {u:JV} (h:zal v t=some c) : zcT v (t :: ts) u=zby v t (zcT c ts u):=by rw[zcT,h]
theorem zkz:∀ (ts:List (List UInt8)) (v h c:JV) (t:List UInt8) (u:JV),za0 v ts=some h->zal h t=some c->zcT v (ts++[t]) u=zcT v ts (zby h t u)
 | [],v,h,c,t,u,e,hc=>by
  rw[zcS] at e
  injection e with e
  subst e
  rw[List.nil_append,zes,zdA hc,zes]
 | x :: ts,v,h,c,t,u,e,hc=>by
  rw[zbV] at e
  cases hx:zal v x with
  | none=>rw[hx] at e; cases e
  | some y=>
   rw[hx] at e
   rw[List.cons_append,zdA hx,zdA hx,zkz ts y h c t u e hc]
def zd2 (f:JV->Option JV) (v:JV) (ts:List (List UInt8)) : Option JV:=((za0 v ts).bind f).map (zcT v ts)
theorem zsz (f:JV->Option JV) (v:JV) : zd2 f v []=f v:=by
 unfold zd2
 rw[zcS]
 show (f v).map (zcT v [])=f v
 cases f v with
 | none=>rfl
 | some u=>show some (zcT v [] u)=_; rw[zes]
theorem zu4 {f:JV->Option JV} {v:JV} {t:List UInt8} {ts:List (List UInt8)} (h:zal v t=none) : zd2 f v (t :: ts)=none:=by
 unfold zd2; rw[zbV,h]; rfl
theorem zsA {f:JV->Option JV} {v c:JV} {t:List UInt8} {ts:List (List UInt8)} (h:zal v t=some c) : zd2 f v (t :: ts)=(zd2 f c ts).map (zby v t):=by
 unfold zd2
 rw[zbV,h]
 show ((za0 c ts).bind f).map (zcT v (t :: ts))=_
 cases (za0 c ts).bind f with
 | none=>rfl
 | some u=>show some (zcT v (t :: ts) u)=some (zby v t (zcT c ts u)); rw[zdA h]
def zcP (ts:List (List UInt8)) : List UInt8:=ts.getLast?.getD []
def zet (v:JV) (ts:List (List UInt8)) (u:JV) : Option JV:=if ts=[] then some u else zd2 (fun h=>za7 h (zcP ts) u) v ts.dropLast
def zdc (h:JV) (t:List UInt8) : Option JV:=(zal h t).map fun _=>za6 h t
def zbQ (v:JV) (ts:List (List UInt8)) : Option JV:=if ts=[] then none else zd2 (fun h=>zdc h (zcP ts)) v ts.dropLast
structure XOp where
 kind:Int
 path:List (List UInt8)
 src:List (List UInt8)
 val:JV
def zc4 (c:Nat) : Option JV->Nat⊕JV
 | none=>.inl c
 | some v=>.inr v
def doV (v:JV) (o:XOp) : Nat⊕JV:=
 if o.kind=1 then zc4 3 (zet v o.path o.val)
 else if o.kind=2 then zc4 3 (zbQ v o.path)
 else if o.kind=3 then zc4 3 (zd2 (fun _=>some o.val) v o.path)
 else if o.kind=4 then match za0 v o.src with
  | none=>.inl 3
  | some m=>if o.src=o.path then .inr v else if o.src.isPrefixOf o.path then .inl 6 else match zbQ v o.src with
   | none=>.inl 3
   | some r=>zc4 3 (zet r o.path m)
 else if o.kind=5 then match za0 v o.src with
  | none=>.inl 3
  | some m=>zc4 3 (zet v o.path m)
 else match za0 v o.path with
  | none=>.inl 3
  | some h=>if ct h=ct o.val then .inr v else .inl 5
def zpD (v:JV) : Bool:=decide (zaY v<=100) && decide (zaA v<=3000) && decide ((ct v).length<=20000)
def zkh:JV->List XOp->Nat->(Nat×Nat)⊕JV
 | v,[],_=>.inr v
 | v,o :: r,i=>match doV v o with
  | .inl c=>.inl (c,i)
  | .inr u=>if zpD u=true then zkh u r (i+1) else .inl (7,i)
theorem ziG {v u c:JV} {t:List UInt8} (h:GdT v) (hu:GdT u) (hc:zal v t=some c) : GdT (zby v t u):=by
 cases v with
 | arr l=>
  rw[zay] at hc
  obtain⟨i,hi,_⟩:=Option.bind_eq_some_iff.1 hc
  have e:zby (.arr l) t u = .arr (JL.ofL (l.toL.set i u)):=by simp only[zby,hi]
  rw[e,zcq,JL.toL_ofL]
  intro x hx
  rcases List.mem_or_eq_of_mem_set hx with hx | rfl
  ·exact (zcq l).1 h x hx
  ·exact hu
 | obj m=>
  have hm:=(zbi m).1 h
  show GdT (.obj (JM.ofL (m.toL.map fun q=>if q.1=t then (q.1,u) else q)))
  rw[zbi,JM.toL_ofL]
  have ek:((m.toL.map fun q=>if q.1=t then (q.1,u) else q).map (·.1))=m.toL.map (·.1):=by
   rw[List.map_map]
   refine List.map_congr_left fun q _=>?_
   show (if q.1=t then (q.1,u) else q).1=q.1
   split <;> rfl
  rw[ek]
  refine⟨hm.1,fun q hq=>?_⟩
  obtain⟨x,hx,rfl⟩:=yO.1 hq
  split
  ·exact⟨(hm.2 x hx).1,hu⟩
  ·exact hm.2 x hx
 | _=>cases hc
theorem zg7 {v c:JV} {t:List UInt8} (h:GdT v) (hc:zal v t=some c) : GdT (za6 v t):=by
 cases v with
 | arr l=>
  rw[zay] at hc
  obtain⟨i,hi,_⟩:=Option.bind_eq_some_iff.1 hc
  have e:za6 (.arr l) t = .arr (JL.ofL (l.toL.eraseIdx i)):=by simp only[za6,hi]
  rw[e,zcq,JL.toL_ofL]
  exact fun x hx=>(zcq l).1 h x (List.mem_of_mem_eraseIdx hx)
 | obj m=>
  have hm:=(zbi m).1 h
  show GdT (.obj (JM.ofL (m.toL.filter fun q=>!(q.1 == t))))
  rw[zbi,JM.toL_ofL]
  refine⟨(List.filter_sublist.map _).nodup hm.1,fun q hq=>hm.2 q ((List.mem_filter.1 hq).1)⟩
 | _=>cases hc
theorem zf0 {v u r:JV} {t:List UInt8} (h:GdT v) (hu:GdT u) (hp:za7 v t u=some r) : GdT r:=by
 cases v with
 | arr l=>
  simp only[za7] at hp
  split at hp
  ·split at hp
   ·injection hp with hp
    subst hp
    rw[zcq,JL.toL_ofL]
    intro x hx
    rw[List.mem_append,List.mem_cons] at hx
    rcases hx with hx | rfl | hx
    ·exact (zcq l).1 h x (List.mem_of_mem_take hx)
    ·exact hu
    ·exact (zcq l).1 h x (List.mem_of_mem_drop hx)
   ·cases hp
  ·cases hp
 | obj m=>
  simp only[za7] at hp
  split at hp
  ·rename_i hv
   injection hp with hp
   subst hp
   cases hc:zal (.obj m) t with
   | some c=>exact ziG h hu hc
   | none=>
    have hm:=(zbi m).1 h
    show GdT (.obj (JM.ofL (m.toL++[(t,u)])))
    rw[zbi,JM.toL_ofL]
    have hno:t ∉ m.toL.map (·.1):=by
     intro hin
     obtain⟨q,hq,e⟩:=yO.1 hin
     rw[zbe,Option.map_eq_none_iff,List.find?_eq_none] at hc
     exact hc q hq (by simp[e])
    constructor
    ·rw[yw,List.nodup_append]
     refine⟨hm.1,by simp,fun a ha b hb e=>?_⟩
     simp at hb
     subst hb; subst e
     exact hno ha
    ·intro q hq
     rw[List.mem_append,List.mem_singleton] at hq
     rcases hq with hq | rfl
     ·exact hm.2 q hq
     ·exact⟨hv,hu⟩
  ·cases hp
 | _=>cases hp
theorem zkA:∀ {ts:List (List UInt8)} {v u h:JV},GdT v->GdT u->za0 v ts=some h->GdT (zcT v ts u)
 | [],v,u,h,_,hu,_=>by rw[zes]; exact hu
 | t :: ts,v,u,h,hv,hu,e=>by
  rw[zbV] at e
  cases hc:zal v t with
  | none=>rw[hc] at e; cases e
  | some c=>
   rw[hc] at e
   rw[zdA hc]
   exact ziG hv (zkA (hv.child hc) hu e) hc
theorem zg8 {f:JV->Option JV} {v r:JV} {ts:List (List UInt8)} (hv:GdT v) (hf:∀ h u,GdT h->f h=some u->GdT u) (h:zd2 f v ts=some r) : GdT r:=by
 unfold zd2 at h
 obtain⟨u,hu,rfl⟩:=yz.1 h
 obtain⟨x,hx,hfx⟩:=Option.bind_eq_some_iff.1 hu
 exact zkA hv (hf x u (hv.get hx) hfx) hx
theorem zg9 {v u r:JV} {ts:List (List UInt8)} (hv:GdT v) (hu:GdT u) (h:zet v ts u=some r) : GdT r:=by
 unfold zet at h
 split at h
 ·injection h with h; subst h; exact hu
 ·exact zg8 hv (fun x y hx e=>zf0 hx hu e) h
theorem zdd {v r:JV} {ts:List (List UInt8)} (hv:GdT v) (h:zbQ v ts=some r) : GdT r:=by
 unfold zbQ at h
 split at h
 ·cases h
 ·refine zg8 hv (fun x y hx e=>?_) h
  unfold zdc at e
  obtain⟨c,hc,rfl⟩:=yz.1 e
  exact zg7 hx hc
theorem zbz {c:Nat} {o:Option JV} {r:JV} (h:zc4 c o = .inr r) : o=some r:=by
 cases o with
 | none=>cases h
 | some x=>injection h with h; rw[h]
theorem znu {v r:JV} {o:XOp} (hv:GdT v) (hu:GdT o.val) (h:doV v o = .inr r) : GdT r:=by
 unfold doV at h
 split at h
 ·exact zg9 hv hu (zbz h)
 ·split at h
  ·exact zdd hv (zbz h)
  ·split at h
   ·exact zg8 hv (fun x y _ e=>by injection e with e; subst e; exact hu) (zbz h)
   ·split at h
    ·split at h
     ·cases h
     ·rename_i m hm
      split at h
      ·injection h with h; subst h; exact hv
      ·split at h
       ·cases h
       ·split at h
        ·cases h
        ·rename_i x hx
         exact zg9 (zdd hv hx) (hv.get hm) (zbz h)
    ·split at h
     ·split at h
      ·cases h
      ·rename_i m hm
       exact zg9 hv (hv.get hm) (zbz h)
     ·split at h
      ·cases h
      ·split at h
       ·injection h with h; subst h; exact hv
       ·cases h
section
variable (ps:List za3) (p:Nat) (dr pu:Bool) (q:za3)
theorem znv {i:Nat} (h:i≠p) (hi:i < ps.length) : zbx ps p dr pu q i=[ps[i]]:=by unfold zbx; simp[h,hi]
theorem zp8 {i:Nat} (h:i≠p) (hi:¬ i < ps.length) : zbx ps p dr pu q i=[]:=by unfold zbx; simp[h,hi]
theorem zmf:∀ k,k<=p->k<=ps.length->zb4 ps p dr pu q k=ps.take k
 | 0,_,_=>by simp[zb4]
 | k+1,h1,h2=>by
  rw[zaR,zmf k (by omega) (by omega),znv ps p dr pu q (by omega) (by omega),yy (by omega)]
theorem zp9:∀ k,p < k->k<=ps.length->zb4 ps p dr pu q k=zb4 ps p dr pu q (p+1)++(ps.take k).drop (p+1)
 | 0,h,_=>by omega
 | k+1,h1,h2=>by
  by_cases e:k=p
  ·subst e
   rw[List.drop_of_length_le (by rw[ym]; omega),List.append_nil]
  ·rw[zaR,zp9 k (by omega) (by omega),znv ps p dr pu q e (by omega),List.append_assoc,yy (by omega),List.drop_append_of_le_length (by rw[ym]; omega)]
theorem zmg (h:p < ps.length) : zb4 ps p dr pu q (ps.length+1)=ps.take p++zbx ps p dr pu q p++ps.drop (p+1):=by
 rw[zaR,zp8 ps p dr pu q (by omega) (by omega),List.append_nil,zp9 ps p dr pu q _ h (ye _),List.take_length,zaR,zmf ps p dr pu q p (ye _) (by omega)]
theorem zsB (h:p=ps.length) : zb4 ps p dr pu q (ps.length+1)=ps++zbx ps p dr pu q p:=by
 subst h
 rw[zaR,zmf ps _ dr pu q _ (ye _) (ye _),List.take_length]
theorem znw (f:za3->Nat) : ∀ k,((zb4 ps p dr pu q k).map f).sum<=((ps.take k).map f).sum+(if p < k then f q else 0)
 | 0=>by simp[zb4]
 | k+1=>by
  rw[zaR,yw,List.sum_append]
  have ih:=znw f k
  have h1:((ps.take (k+1)).map f).sum=((ps.take k).map f).sum+(if h:k < ps.length then f ps[k] else 0):=by
   by_cases hk:k < ps.length
   ·rw[yy hk,yw,List.sum_append,dif_pos hk]; simp
   ·rw[yq (by omega),yq (by omega),dif_neg hk]; simp
  have h2:((zbx ps p dr pu q k).map f).sum<=(if k=p then f q else 0)+(if h:k < ps.length then f ps[k] else 0):=by
   unfold zbx
   rw[yw,List.sum_append]
   by_cases e:k=p
   ·by_cases hk:k < ps.length
    ·rw[yg e,dif_pos hk,dif_pos hk]
     refine Nat.add_le_add ?_ ?_
     ·split <;> simp
     ·split <;> simp
    ·rw[yg e,dif_neg hk,dif_neg hk]
     refine Nat.add_le_add ?_ ?_
     ·split <;> simp
     ·simp
   ·by_cases hk:k < ps.length
    ·rw[yf e,dif_pos hk,dif_pos hk,yf (by simp[e])]
     refine Nat.add_le_add ?_ ?_
     ·simp
     ·split <;> simp
    ·rw[yf e,dif_neg hk,dif_neg hk,yf (by simp[e])]
     simp
  rw[h1]
  split at ih
  ·rename_i hp
   rw[yg (by omega)]
   rw[yf (by omega)] at h2
   omega
  ·rename_i hp
   by_cases e:k=p
   ·rw[yg (by omega)]
    rw[yg e] at h2
    omega
   ·rw[yf e] at h2
    omega
end
theorem zsC (ps:List za3) (p:Nat) (q:za3) (h:p < ps.length) : zb4 ps p true true q (ps.length+1)=ps.take p++q :: ps.drop (p+1):=by
 rw[zmg ps p true true q h]
 unfold zbx
 simp[h]
theorem zqa (ps:List za3) (p:Nat) (q:za3) (h:p < ps.length) : zb4 ps p true false q (ps.length+1)=ps.take p++ps.drop (p+1):=by
 rw[zmg ps p true false q h]
 unfold zbx
 simp[h]
theorem znx (ps:List za3) (p:Nat) (q:za3) (h:p<=ps.length) : zb4 ps p false true q (ps.length+1)=ps.take p++q :: ps.drop p:=by
 by_cases hp:p < ps.length
 ·rw[zmg ps p false true q hp]
  unfold zbx
  rw[List.drop_eq_getElem_cons hp]
  simp[hp]
 ·have e:p=ps.length:=by omega
  rw[zsB ps p false true q e]
  subst e
  unfold zbx
  simp
theorem zmh (l:List JV) : ctL (JL.ofL l)=l.map ct:=by rw[zaG,JL.toL_ofL]
theorem zwg:∀ {a b:List za3},a.Perm b->(a.map (·.1)).Nodup->a.Pairwise (fun x y=>x.1<=y.1)->b.Pairwise (fun x y=>x.1<=y.1)->a=b
 | [],b,h,_,_,_=>by rw[List.nil_perm.1 h]
 | x :: a,[],h,_,_,_=>by have:=h.length_eq; simp at this
 | x :: a,y :: b,h,hn,ha,hb=>by
  rw[List.pairwise_cons] at ha hb
  rw[yi,List.nodup_cons] at hn
  have e:x=y:=by
   have hy:y∈x :: a:=h.symm.subset yp
   have hx:x∈y :: b:=h.subset yp
   rcases List.mem_cons.1 hy with e | hy
   ·exact e.symm
   ·rcases List.mem_cons.1 hx with e | hx
    ·exact e
    ·have h1:=ha.1 y hy
     have h2:=hb.1 x hx
     have e1:x.1=y.1:=List.le_antisymm h1 h2
     exact absurd (yO.2 ⟨y,hy,e1.symm⟩) hn.1
  subst e
  rw[zwg (a:=a) (b:=b) ((List.perm_cons x).1 h) hn.2 ha.2 hb.2]
theorem zeu {a b:List za3} (h:a.Perm b) (hn:(a.map (·.1)).Nodup) : zaq a=zaq b:=
 zwg ((zap a).trans (h.trans (zap b).symm)) ((((zap a).map _).nodup_iff).2 hn) (zgJ a) (zgJ b)
theorem zt4:∀ (ps:List za3) (p:Nat) (t x:List UInt8) (hp:p < ps.length),(ps.map (·.1)).Nodup->ps[p].1=t->ps.take p++(t,x) :: ps.drop (p+1)=ps.map fun q=>if q.1=t then (q.1,x) else q
 | [],p,t,x,hp,_,_=>by simp at hp
 | a :: ps,0,t,x,hp,hn,e=>by
  have e':a.1=t:=e
  rw[yi,List.nodup_cons] at hn
  rw[yi,yg e',e']
  show (t,x) :: ps=_
  congr 1
  rw[show ps=ps.map id from (List.map_id _).symm,List.map_map]
  refine List.map_congr_left fun q hq=>?_
  have:q.1≠t:=fun h=>hn.1 (by rw[e',← h]; exact yO.2 ⟨q,hq,rfl⟩)
  simp[this]
 | a :: ps,p+1,t,x,hp,hn,e=>by
  have hp':p < ps.length:=by simpa using hp
  have e':ps[p].1=t:=e
  rw[yi,List.nodup_cons] at hn
  have ne:a.1≠t:=fun h=>hn.1 (by rw[h,← e']; exact yO.2 ⟨_,yr hp',rfl⟩)
  rw[yi,yf ne,← zt4 ps p t x hp' hn.2 e']
  rfl
theorem zqb:∀ (ps:List za3) (p:Nat) (t:List UInt8) (hp:p < ps.length),(ps.map (·.1)).Nodup->ps[p].1=t->ps.take p++ps.drop (p+1)=ps.filter fun q=>!(q.1 == t)
 | [],p,t,hp,_,_=>by simp at hp
 | a :: ps,0,t,hp,hn,e=>by
  have e':a.1=t:=e
  rw[yi,List.nodup_cons] at hn
  rw[List.filter_cons_of_neg (by simp[e'])]
  show ps=_
  symm
  rw[List.filter_eq_self]
  intro q hq
  have:q.1≠t:=fun h=>hn.1 (by rw[e',← h]; exact yO.2 ⟨q,hq,rfl⟩)
  simp[this]
 | a :: ps,p+1,t,hp,hn,e=>by
  have hp':p < ps.length:=by simpa using hp
  have e':ps[p].1=t:=e
  rw[yi,List.nodup_cons] at hn
  have ne:a.1≠t:=fun h=>hn.1 (by rw[h,← e']; exact yO.2 ⟨_,yr hp',rfl⟩)
  rw[List.filter_cons_of_pos (by simp[ne]),← zqb ps p t hp' hn.2 e']
  rfl
theorem zde {m:JM} (h:GdT (.obj m)) : ((zae (.obj m)).map (·.1)).Nodup:=by
 show ((zaq (ctM m)).map (·.1)).Nodup
 rw[((zap _).map _).nodup_iff,zaK,List.map_map]
 exact ((zbi m).1 h).1
theorem zca (l:JL) : (zae (.arr l)).map (·.2)=l.toL.map ct:=by
 rw[zi4,List.map_map]
 show (ziv 0 l.toL).map (fun q=>ct q.2)=_
 rw[show (fun q:List UInt8×JV=>ct q.2)=ct∘(·.2) from rfl,← List.map_map,zgO]
theorem zf1 (l:JL) {j:Nat} (hj:j < (zae (.arr l)).length) : (zae (.arr l))[j].1=zb5 j:=by
 have e:zae (.arr l)=ze7 0 (ctL l):=rfl
 have hj':j < (ze7 0 (ctL l)).length:=by rw[← e]; exact hj
 have:=zh3 (ctL l) 0 j hj'
 simp only[e]
 rw[this]
 simp
theorem zqc {α β:Type} (f:α->β) : ∀ (l:List α) (i:Nat) (x:α),i < l.length->(l.set i x).map f=(l.map f).take i++f x :: (l.map f).drop (i+1)
 | [],i,x,h=>by simp at h
 | a :: l,0,x,_=>by simp
 | a :: l,i+1,x,h=>by
  rw[List.set_cons_succ,yi,zqc f l i x (by simpa using h)]
  simp
theorem zu5 {v u:JV} {t:List UInt8} {j:Nat} {c:JV} (hg:GdT v) (hc:zal v t=some c) (hj:j < (zae v).length) (hk:(zae v)[j].1=t) : mkV v (zb4 (zae v) j true true (t,ct u) ((zae v).length+1))=ct (zby v t u):=by
 rw[zsC _ _ _ hj]
 cases v with
 | arr l=>
  rw[zay] at hc
  obtain⟨i,hi,hli⟩:=Option.bind_eq_some_iff.1 hc
  have e:j=i:=by
   rw[zf1] at hk
   exact zfH (hk.trans (zgL hi).symm)
  subst e
  have e2:zby (.arr l) t u = .arr (JL.ofL (l.toL.set j u)):=by simp only[zby,hi]
  have hjl:j < l.toL.length:=(List.getElem?_eq_some_iff.1 hli).1
  rw[e2]
  show mkA _=mkA (ctL (JL.ofL (l.toL.set j u)))
  congr 1
  rw[zmh,zqc ct l.toL j u hjl,← zca,yw,yi,List.map_take,List.map_drop]
 | obj m=>
  rw[zt4 _ j t (ct u) hj (zde hg) hk]
  show mkO (zaq ((zaq (ctM m)).map _))=mkO (zaq (ctM (JM.ofL _)))
  congr 1
  have e3:ctM (JM.ofL (m.toL.map fun q=>if q.1=t then (q.1,u) else q))=(ctM m).map fun q=>if q.1=t then (q.1,ct u) else q:=by
   rw[zaK,JM.toL_ofL,zaK,List.map_map,List.map_map]
   refine List.map_congr_left fun q _=>?_
   show ((if q.1=t then (q.1,u) else q).1,ct (if q.1=t then (q.1,u) else q).2)=if (q.1,ct q.2).1=t then ((q.1,ct q.2).1,ct u) else (q.1,ct q.2)
   by_cases e:q.1=t <;> simp[e]
  rw[e3]
  refine zeu ((zap _).map _) ?_
  rw[List.map_map]
  have:((fun x:za3=>x.1)∘fun q:za3=>if q.1=t then (q.1,ct u) else q)=fun x:za3=>x.1:=by
   funext q
   show (if q.1=t then (q.1,ct u) else q).1=q.1
   split <;> rfl
  rw[this]
  exact zde hg
 | _=>cases hc
theorem zsD {v:JV} {t:List UInt8} {j:Nat} {c:JV} {q:za3} (hg:GdT v) (hc:zal v t=some c) (hj:j < (zae v).length) (hk:(zae v)[j].1=t) : mkV v (zb4 (zae v) j true false q ((zae v).length+1))=ct (za6 v t):=by
 rw[zqa _ _ _ hj]
 cases v with
 | arr l=>
  rw[zay] at hc
  obtain⟨i,hi,hli⟩:=Option.bind_eq_some_iff.1 hc
  have e:j=i:=by
   rw[zf1] at hk
   exact zfH (hk.trans (zgL hi).symm)
  subst e
  have e2:za6 (.arr l) t = .arr (JL.ofL (l.toL.eraseIdx j)):=by simp only[za6,hi]
  rw[e2]
  show mkA _=mkA (ctL (JL.ofL (l.toL.eraseIdx j)))
  congr 1
  rw[zmh,List.eraseIdx_eq_take_drop_succ,yw,yw,List.map_take,List.map_drop,List.map_take,List.map_drop,zca]
 | obj m=>
  rw[zqb _ j t hj (zde hg) hk]
  show mkO (zaq ((zaq (ctM m)).filter _))=mkO (zaq (ctM (JM.ofL _)))
  congr 1
  have e3:ctM (JM.ofL (m.toL.filter fun q=>!(q.1 == t)))=(ctM m).filter fun q=>!(q.1 == t):=by
   rw[zaK,JM.toL_ofL,zaK,List.filter_map]
   rfl
  rw[e3]
  refine zeu ((zap _).filter _) ?_
  exact (List.filter_sublist.map _).nodup (zde hg)
 | _=>cases hc
theorem zkB {α β:Type} (f:α->β) (l:List α) (i:Nat) (x:α) : (l.take i++x :: l.drop i).map f=(l.map f).take i++f x :: (l.map f).drop i:=by
 rw[yw,yi,List.map_take,List.map_drop]
theorem zsE {l:JL} {u:JV} {i:Nat} {t:List UInt8} (hi:i<=l.toL.length) : mkV (.arr l) (zb4 (zae (.arr l)) i false true (t,ct u) ((zae (.arr l)).length+1))=ct (.arr (JL.ofL (l.toL.take i++u :: l.toL.drop i))):=by
 have hl:(zae (.arr l)).length=l.toL.length:=by
  have:=congrArg List.length (zca l)
  simpa using this
 rw[znx _ _ _ (by omega)]
 show mkA _=mkA (ctL (JL.ofL _))
 congr 1
 rw[zmh,zkB ct,← zca,zkB]
theorem zsF {m:JM} {u:JV} {t:List UInt8} (hg:GdT (.obj m)) (hn:zal (.obj m) t=none) : mkV (.obj m) (zb4 (zae (.obj m)) 0 false true (t,ct u) ((zae (.obj m)).length+1))=ct (.obj (JM.ofL (m.toL++[(t,u)]))):=by
 rw[znx _ _ _ (yt _)]
 show mkO (zaq ((t,ct u) :: zaq (ctM m)))=mkO (zaq (ctM (JM.ofL _)))
 congr 1
 have e3:ctM (JM.ofL (m.toL++[(t,u)]))=ctM m++[(t,ct u)]:=by
  rw[zaK,JM.toL_ofL,zaK,yw]; rfl
 rw[e3]
 refine zeu ?_ ?_
 ·refine (List.Perm.cons _ (zap _)).trans ?_
  exact (List.perm_append_comm (l₁:=[(t,ct u)]) (l₂:=ctM m))
 ·rw[yi,List.nodup_cons]
  refine⟨fun h=>?_,zde hg⟩
  obtain⟨x,hx,e⟩:=yO.1 h
  have hx':=(zap _).subset hx
  rw[zaK] at hx'
  obtain⟨y,hy,rfl⟩:=yO.1 hx'
  rw[zbe,Option.map_eq_none_iff,List.find?_eq_none] at hn
  exact hn y hy (by simpa using e)
theorem zev (l:List JV) : (ct (.arr (JL.ofL l))).length=hold l.length+(l.map fun v=>(ct v).length).sum:=by
 show (mkA (ctL (JL.ofL l))).length=_
 rw[zaG,JL.toL_ofL]
 have h:=zeJ (l.map ct)
 have e2:nl (l.map ct)=(l.map fun v=>(ct v).length).sum:=by
  unfold nl
  rw[List.map_map]; rfl
 rw[yl,e2] at h
 simp[mkA]; omega
theorem JL.ofL_toL:∀ l:JL,JL.ofL l.toL=l
 | .nil=>rfl
 | .cons v r=>by rw[JL.toL,JL.ofL,JL.ofL_toL r]
theorem zdf (l:JL) : (ct (.arr l)).length=hold l.toL.length+(l.toL.map fun v=>(ct v).length).sum:=by
 have:=zev l.toL
 rwa [JL.ofL_toL] at this
theorem zqd {α:Type} (f:α->Nat) : ∀ (l:List α) (i:Nat) (x y:α),l[i]?=some y->((l.set i x).map f).sum+f y=(l.map f).sum+f x
 | [],i,x,y,h=>by simp at h
 | a :: l,0,x,y,h=>by
  have e:a=y:=by simpa using h
  subst e
  rw[List.set_cons_zero,yi,yi,yL,yL]
  omega
 | a :: l,i+1,x,y,h=>by
  have ih:=zqd f l i x y (by simpa using h)
  rw[List.set_cons_succ,yi,yi,yL,yL]
  omega
theorem zqe (t:List UInt8) (u:JV) : ∀ (l:List (List UInt8×JV)) (c:JV),(l.map (·.1)).Nodup->(l.find? fun q=>q.1 == t).map (·.2)=some c->((l.map fun q=>if q.1=t then (q.1,u) else q).map zdT).sum+(ct c).length=(l.map zdT).sum+(ct u).length
 | [],c,_,h=>by simp at h
 | a :: l,c,hn,h=>by
  rw[yi,List.nodup_cons] at hn
  by_cases e:a.1=t
  ·rw[List.find?_cons,show (a.1 == t)=true by simp[e]] at h
   have e2:a.2=c:=by simpa using h
   have e3:(l.map fun q=>if q.1=t then (q.1,u) else q)=l:=by
    conv=>rhs; rw[← List.map_id l]
    refine List.map_congr_left fun q hq=>?_
    have:q.1≠t:=fun h=>hn.1 (by rw[e,← h]; exact yO.2 ⟨q,hq,rfl⟩)
    simp[this]
   rw[yi,yg e,e3,yi,yi,yL,yL,← e2]
   unfold zdT
   simp only
   omega
  ·rw[List.find?_cons,show (a.1 == t)=false by simp[e]] at h
   have ih:=zqe t u l c hn.2 h
   rw[yi,yf e,yi,yi,yL,yL]
   omega
theorem zha {v u c:JV} {t:List UInt8} (hg:GdT v) (hc:zal v t=some c) : (ct (zby v t u)).length+(ct c).length=(ct v).length+(ct u).length:=by
 cases v with
 | arr l=>
  rw[zay] at hc
  obtain⟨i,hi,hli⟩:=Option.bind_eq_some_iff.1 hc
  have e:zby (.arr l) t u = .arr (JL.ofL (l.toL.set i u)):=by simp only[zby,hi]
  rw[e,zev,zdf,List.length_set]
  have:=zqd (fun v=>(ct v).length) l.toL i u c hli
  omega
 | obj m=>
  rw[zbe] at hc
  have e:zby (.obj m) t u = .obj (JM.ofL (m.toL.map fun q=>if q.1=t then (q.1,u) else q)):=rfl
  rw[e,zbd,zbd,JM.toL_ofL,yl]
  have:=zqe t u m.toL c ((zbi m).1 hg).1 hc
  omega
 | _=>cases hc
theorem zci:∀ {ts:List (List UInt8)} {v u h:JV},GdT v->za0 v ts=some h->(ct (zcT v ts u)).length+(ct h).length=(ct v).length+(ct u).length
 | [],v,u,h,_,e=>by
  rw[zcS] at e
  injection e with e
  subst e
  rw[zes]
  omega
 | t :: ts,v,u,h,hv,e=>by
  rw[zbV] at e
  cases hc:zal v t with
  | none=>rw[hc] at e; cases e
  | some c=>
   rw[hc] at e
   rw[zdA hc]
   have h1:=zha (u:=zcT c ts u) hv hc
   have h2:=zci (u:=u) (hv.child hc) e
   omega
theorem zny {α:Type} (f:α->Nat) (p:α->Bool) : ∀ l:List α,((l.filter p).map f).sum<=(l.map f).sum
 | []=>by simp
 | a :: l=>by
  have ih:=zny f p l
  rw[yi,yL]
  by_cases h:p a=true
  ·rw[List.filter_cons_of_pos h,yi,yL]; omega
  ·rw[List.filter_cons_of_neg h]; omega
theorem zkC {α:Type} (f:α->Nat) : ∀ (l:List α) (i:Nat),((l.eraseIdx i).map f).sum<=(l.map f).sum
 | [],i=>by simp
 | a :: l,0=>by simp
 | a :: l,i+1=>by
  have ih:=zkC f l i
  rw[List.eraseIdx_cons_succ,yi,yi,yL,yL]
  omega
theorem zf2 {v c:JV} {t:List UInt8} (hc:zal v t=some c) : (ct (za6 v t)).length<=(ct v).length:=by
 cases v with
 | arr l=>
  rw[zay] at hc
  obtain⟨i,hi,hli⟩:=Option.bind_eq_some_iff.1 hc
  have e:za6 (.arr l) t = .arr (JL.ofL (l.toL.eraseIdx i)):=by simp only[za6,hi]
  rw[e,zev,zdf]
  have h1:=zkC (fun v=>(ct v).length) l.toL i
  have h2:(l.toL.eraseIdx i).length<=l.toL.length:=List.length_eraseIdx_le ..
  unfold hold
  omega
 | obj m=>
  have e:za6 (.obj m) t = .obj (JM.ofL (m.toL.filter fun q=>!(q.1 == t))):=rfl
  rw[e,zbd,zbd,JM.toL_ofL]
  have h1:=zny zdT (fun q=>!(q.1 == t)) m.toL
  have h2:=List.length_filter_le (fun q:List UInt8×JV=>!(q.1 == t)) m.toL
  unfold hold
  omega
 | _=>cases hc
theorem zhb {v u r:JV} {t:List UInt8} (hg:GdT v) (h:za7 v t u=some r) : (ct r).length<=(ct v).length+(ct u).length+6*t.length+4:=by
 cases v with
 | arr l=>
  simp only[za7] at h
  split at h
  ·rename_i i hi
   split at h
   ·injection h with h
    subst h
    rw[zev,zdf]
    have h3:((l.toL.take i++u :: l.toL.drop i).map fun v=>(ct v).length).sum=(l.toL.map fun v=>(ct v).length).sum+(ct u).length:=by
     conv=>rhs; rw[← List.take_append_drop i l.toL]
     rw[yw,List.sum_append,yi,yL,yw,List.sum_append]
     omega
    have h4:(l.toL.take i++u :: l.toL.drop i).length=l.toL.length+1:=by
     rw[yh,yn,ym,yu]; omega
    rw[h3,h4]
    unfold hold
    omega
   ·cases h
  ·cases h
 | obj m=>
  simp only[za7] at h
  split at h
  ·injection h with h
   subst h
   cases hc:zal (.obj m) t with
   | some c=>
    have:=zha (u:=u) hg hc
    rw[Option.isSome_some,yg rfl]
    omega
   | none=>
    rw[Option.isSome_none,yf (by simp)]
    rw[zbd,zbd,JM.toL_ofL,yw,List.sum_append,yh]
    have:=zcD t
    simp only[yi,List.map_nil,yL,List.sum_nil,yn,yD,zdT]
    unfold hold
    omega
  ·cases h
 | _=>cases h
theorem zoI (m:JM) : zbB (zae (.obj m))<=(ct (.obj m)).length:=by
 show zbB (zaq (ctM m))<=(mkO (zaq (ctM m))).length
 unfold mkO
 rw[yn,yh]
 have:∀ l:List za3,zbB l<=(joinC (l.map zav)).length+1:=fun l=>by
  cases l with
  | nil=>simp[zbB]
  | cons x r=>
   have h2:∀ r:List za3,zbB r=(joinT (r.map zav)).length:=fun r=>by
    induction r with
    | nil=>rfl
    | cons y r ih=>unfold zbB at *; rw[yi,yi,yL,ih,joinT]; simp; omega
   have h3:=h2 r
   show zbB (x :: r)<=(zav x++joinT (r.map zav)).length+1
   unfold zbB at *
   rw[yi,yL,h3,yh]
   omega
 have:=this (zaq (ctM m))
 simp
 omega
theorem zoJ (l:JL) : zgZ (zae (.arr l))<=(ct (.arr l)).length:=by
 have e:zgZ (zae (.arr l))=((ctL l).map fun t=>t.length+1).sum:=by
  unfold zgZ
  rw[show (fun p:za3=>p.2.length+1)=(fun t:List UInt8=>t.length+1)∘(·.2) from rfl,← List.map_map,zca,zaG]
 rw[e]
 show _<=(mkA (ctL l)).length
 unfold mkA
 rw[yn,yh]
 have:∀ l:List (List UInt8),(l.map fun t=>t.length+1).sum<=(joinC l).length+1:=fun l=>by
  cases l with
  | nil=>simp
  | cons x r=>
   have h2:∀ r:List (List UInt8),(r.map fun t=>t.length+1).sum=(joinT r).length:=fun r=>by
    induction r with
    | nil=>rfl
    | cons y r ih=>rw[yi,yL,ih,joinT]; simp; omega
   rw[yi,yL,h2 r]
   show _<=(x++joinT r).length+1
   rw[yh]
   omega
 have:=this (ctL l)
 simp
 omega
theorem zwh {v:JV} (hok:okV v) (htw:twV v=false) {x:za3} (h:x∈zae v) : x.1.length+x.2.length+1<=(ct v).length:=by
 rw[zi4] at h
 obtain⟨y,hy,rfl⟩:=yO.1 h
 exact (zrL hok htw hy).2.2.2
theorem znz {ps:List za3} {p:Nat} {dr pu:Bool} {q:za3} : ∀ {k:Nat} {x:za3},x∈zb4 ps p dr pu q k->x=q∨x∈ps
 | 0,x,h=>by simp[zb4] at h
 | k+1,x,h=>by
  rw[zaR,List.mem_append] at h
  rcases h with h | h
  ·exact znz h
  ·unfold zbx at h
   rw[List.mem_append] at h
   rcases h with h | h
   ·split at h
    ·exact .inl (by simpa using h)
    ·simp at h
   ·split at h
    ·split at h
     ·rename_i hk _
      rw[List.mem_singleton] at h
      exact .inr (by rw[h]; exact yr hk)
     ·simp at h
    ·simp at h
theorem zhc {α:Type} (f g:α->Nat) : ∀ (l:List α),(∀ x∈l,f x<=g x)->(l.map f).sum<=(l.map g).sum
 | [],_=>by simp
 | x :: r,h=>by
  rw[yi,yi,yL,yL]
  have h1:=h x yp
  have h2:=zhc f g r fun y hy=>h y (yv _ hy)
  omega
theorem znA {α:Type} (f:α->Nat) (c:Nat) : ∀ l:List α,(l.map fun x=>c*f x).sum=c*(l.map f).sum
 | []=>by simp
 | x :: r=>by rw[yi,yi,yL,yL,znA f c r,Nat.mul_add]
theorem zew {v:JV} (hok:okV v) (htw:twV v=false) (hkd:kd v=5∨kd v=6) (hl:(ct v).length<=100000) (p:Nat) (dr pu:Bool) (q:za3) (h1:q.1.length<=1048576) (h2:q.2.length<=20000000) :
  zgZ (zb4 (zae v) p dr pu q ((zae v).length+1))<=40000000/\zbB (zaq (zb4 (zae v) p dr pu q ((zae v).length+1)))<=40000000/\∀ x∈zaq (zb4 (zae v) p dr pu q ((zae v).length+1)),x.1.length<=1048576:=by
 have hpl:=zbq hok (by omega)
 have hsum:∀ f:za3->Nat,((zb4 (zae v) p dr pu q ((zae v).length+1)).map f).sum<=((zae v).map f).sum+f q:=fun f=>by
  have:=znw (zae v) p dr pu q f ((zae v).length+1)
  rw[yq (by omega)] at this
  refine yP this ?_
  split <;> omega
 have hA:zgZ (zae v)<=100000/\zbB (zae v)<=6000000:=by
  rcases hkd with hk | hk
  ·obtain⟨l,rfl⟩ : ∃ l,v = .arr l:=by cases v <;> first | exact⟨_,rfl⟩ | (simp[kd] at hk)
   have h3:=zoJ l
   refine⟨by omega,?_⟩
   have h4:zbB (zae (.arr l))<=((zae (.arr l)).map fun x=>46*(x.2.length+1)).sum:=by
    unfold zbB
    refine zhc _ _ _ fun x hx=>?_
    obtain⟨j,hj,rfl⟩:=List.mem_iff_getElem.1 hx
    have e:=zf1 l hj
    have e2:=zvZ 6 j (by omega)
    have e3:=zcD (zae (.arr l))[j].1
    rw[e] at e3
    unfold zav
    rw[yh,yn,e]
    omega
   rw[znA] at h4
   have h5:((zae (.arr l)).map fun x=>x.2.length+1).sum=zgZ (zae (.arr l)):=rfl
   omega
  ·obtain⟨m,rfl⟩ : ∃ m,v = .obj m:=by cases v <;> first | exact⟨_,rfl⟩ | (simp[kd] at hk)
   have h3:=zoI m
   refine⟨?_,by omega⟩
   have h4:zgZ (zae (.obj m))<=zbB (zae (.obj m)):=by
    unfold zgZ zbB
    refine zhc _ _ _ fun x _=>?_
    unfold zav
    rw[yh,yn]
    omega
   omega
 have g1:=hsum fun x=>x.2.length+1
 have g2:=hsum fun x=>(zav x).length+1
 have g3:=zcD q.1
 have g4:(zav q).length+1<=6*1048576+4+20000000:=by
  unfold zav
  rw[yh,yn]
  omega
 refine⟨?_,?_,fun x hx=>?_⟩
 ·refine yP g1 ?_
  show zgZ (zae v)+(q.2.length+1)<=_
  omega
 ·rw[zdq]
  refine yP g2 ?_
  show zbB (zae v)+((zav q).length+1)<=_
  omega
 ·rcases znz ((zap _).subset hx) with rfl | h
  ·exact h1
  ·have:=zwh hok htw h
   omega
theorem zex:∀ (ts:List (List UInt8)) (v u h:JV) (a:Option Addr) (g off cap:Nat) (w:World),GdT v->GdT u->za0 v ts=some h->(ct v).length<=100000->(ct (zcT v ts u)).length<=20000000->(∀ t∈ts,t.length<=1048576)->ts.length<=1048577->ts.length<=cap->SS w a g off (ts.map baT) ->
  Calls prog 96 #[.string (zac (ct v)),.slice a ts.length cap,.string (zac (ct u))] w fun e w'=>e = .returned (.string (zac (ct (zcT v ts u))))/\Below w.heap.size w w'
 | [],v,u,h,a,g,off,cap,w,_,_,_,_,_,_,_,_,_=>by
  rw[zes]
  generalize zac (ct u)=U at *
  go_enter func96,ntmps96
  go_wp2
  go_ret
  exact⟨rfl,yH _ _⟩
 | t :: ts,v,u,h,a,g,off,cap,w,hv,hu,hg,hl,hs,ht,hn,hcap,hss=>by
  rw[zbV] at hg
  cases hc:zal v t with
  | none=>rw[hc] at hg; cases hg
  | some c=>
   rw[hc] at hg
   have hgc:=hv.child hc
   obtain⟨_,_,hcl,_⟩:=zbG hc hv.ok hv.tw
   rw[zdA hc] at hs ⊢
   have hsl:(ct (zcT c ts u)).length<=20000000:=by
    have h1:=zha (u:=zcT c ts u) hv hc
    omega
   have IH:Hid (∀ (a':Option Addr) (g' off' cap':Nat) (wx:World),ts.length<=cap'->SS wx a' g' off' (ts.map baT)->Calls prog 96 #[.string (zac (ct c)),.slice a' ts.length cap',.string (zac (ct u))] wx fun e w'=>e = .returned (.string (zac (ct (zcT c ts u))))/\Below wx.heap.size wx w'):=fun a' g' off' cap' wx h1 h2=>zex ts c u h a' g' off' cap' wx hgc hu hg (by omega) hsl (fun x hx=>ht x (yv _ hx)) (by simp at hn; omega) h1 h2
   have HCH:=zab (zfX v hv.ok hv.tw t (ht t yp) w (by omega))
   have HPA:Hid (∀ wx,Calls prog 47 #[.string (zac (ct v))] wx fun e w'=>∃ r,e = .returned r/\PR w' wx.heap.size r (zae v)/\Below wx.heap.size wx w'):=fun wx=>zch v hv.ok wx (by omega)
   have hkd:kd v=5∨kd v=6:=by
    cases v with
    | arr l=>exact .inl rfl
    | obj m=>exact .inr rfl
    | _=>cases hc
   have HWI:Hid (∀ (j:Nat) (hj:j < (zae v).length) (wx:World),(zae v)[j].1=t->Calls prog 123 #[.string (zac (ct v)),.int .i64 (j:Int),.bool true,.bool true,.agg #[.string (zac t),.string (zac (ct (zcT c ts u)))]] wx fun e w'=>e = .returned (.string (zac (ct (zby v t (zcT c ts u)))))/\Below wx.heap.size wx w'):=fun j hj wx hk=>by
    obtain⟨s1,s2,s3⟩:=zew hv.ok hv.tw hkd hl j true true (t,ct (zcT c ts u)) (ht t yp) hsl
    have hpl:=zbq hv.ok (show (ct v).length<=1000000 by omega)
    have:=zfd v hv.ok (by omega) j true true (t,ct (zcT c ts u)) wx (by omega) s1 s2 s3
    rw[zu5 hv hc hj hk] at this
    exact this
   have hadr:=hss.ad (by simp)
   have hc0:=hss.cell 0 (by simp)
   have hc0':w.cell? ⟨g,off,none⟩=some (.string (zac t)):=by simpa [baT,zac] using hc0
   have HTL:Hid (∀ wx,Below w.heap.size w wx->SS wx (some ⟨g,off+1,none⟩) g (off+1) (ts.map baT)):=fun wx hx=>⟨fun _=>rfl,fun j hj=>by
    have h1:=(hss.below hx).cell (j+1) (by simpa using hj)
    rw[show off+(j+1)=off+1+j by omega] at h1
    simpa using h1⟩
   subst hadr
   clear hss hc0 hg hgc hcl hs hsl hv hu hkd hl
   generalize ct (zby v t (zcT c ts u))=R at *
   generalize ct (zcT c ts u)=Z at *
   generalize zac (ct u)=U at *
   generalize zac R=sR at *
   go_enter func96,ntmps96
   go_wp2_with fail
   refine (uh HCH).mono ?_
   rintro e w1 ⟨b1,⟨rfl,hcn⟩ | ⟨j,hj,u',rfl,hcs,hpt,hpk⟩⟩
   ·rw[hc] at hcn; cases hcn
   ·obtain rfl:u'=c:=by rw[hc] at hcs; injection hcs with hcs; exact hcs.symm
    have HP1:=zab (uh HPA w1)
    have HWI2:=zab (fun wx=>uh HWI j hj wx hpk)
    have HB1:=zab b1
    have hz1:=b1.size
    clear HCH HPA HWI hcs hc b1 ht
    go_wp2_with fail
    refine (uh HP1).mono ?_
    rintro e w2 ⟨r2,rfl,p2,b2⟩
    obtain⟨g2,cap2,rfl,hB2,hgl,c0,c1⟩:=p2.cells j hj
    rw[hpk] at c0
    rw[hpt] at c1
    have hjI:(j:Int) < ((zae v).length:Int):=by omega
    have HB2:=zab (zaa (uh HB1) b2)
    have HZ2:=zab (uh HB2).size
    clear HP1 p2 hpk hpt b2 HB1
    generalize zac (ct u')=sc at *
    generalize zac t=st at *
    generalize zac Z=sz at *
    generalize zac (ct v)=sv at *
    have kA:=yG w2 (.cells #[.string st,.string sc] 99)
    have bA:=zai w2 (.cells #[.string st,.string sc] 99)
    have y0:(w2.alloc (.cells #[.string st,.string sc] 99)).cell? ⟨w2.heap.size,0,none⟩=some (.string st):=yF kA 0
    have y1:(w2.alloc (.cells #[.string st,.string sc] 99)).cell? ⟨w2.heap.size,1,none⟩=some (.string sc):=yF kA 1
    have hltA:=(yB.1 kA).1
    have HOP:Hid (∀ X,Below (w2.alloc (.cells #[.string st,.string sc] 99)).drew.heap.size (w2.alloc (.cells #[.string st,.string sc] 99)).drew X->X.heap[w2.heap.size]?=some (.cells #[.string st,.string sc] 99 (0,0))):=fun X hX=>(hX.block w2.heap.size hltA).trans kA
    have HOLD:Hid (∀ X,Below (w2.alloc (.cells #[.string st,.string sc] 99)).drew.heap.size (w2.alloc (.cells #[.string st,.string sc] 99)).drew X->X.cell? ⟨w2.heap.size,0,none⟩=some (.string st)/\X.cell? ⟨w2.heap.size,1,none⟩=some (.string sc)/\X.frozen? ⟨w2.heap.size,1,none⟩=false):=fun X hX=>⟨yF (uh HOP X hX) 0,yF (uh HOP X hX) 1,yI (uh HOP X hX) 1⟩
    have hbA:=(zaa (uh HB2) bA)
    have HBL:Hid (∀ X,Below (w2.alloc (.cells #[.string st,.string sc] 99)).drew.heap.size (w2.alloc (.cells #[.string st,.string sc] 99)).drew X->Below w.heap.size w X):=fun X hX=>zaa hbA.drew hX
    have hSS:=uh HTL _ hbA.drew
    have hcap1:ts.length+1<=cap:=by simpa using hcap
    have hz0:¬ ((ts.length:Int)+1=0):=by omega
    have hle1:(1:Int)<=(ts.length:Int)+1:=by omega
    clear kA bA hltA hbA hcap hn
    have hSA:SS (w2.alloc (.cells #[.string st,.string sc] 99)).drew (if cap=1 then some ⟨g,off,none⟩ else some ⟨g,off+1,none⟩) g (off+1) (ts.map baT):=by
     by_cases h1:cap=1
     ·have ht0:ts=[]:=yN (by omega)
      subst ht0
      exact⟨fun h=>by simp at h,fun j hj=>by simp at hj⟩
     ·rw[yf h1]; exact hSS
    clear hSS
    have HIH:=zab (uh IH (if cap=1 then some ⟨g,off,none⟩ else some ⟨g,off+1,none⟩) g (off+1) (cap - 1) (w2.alloc (.cells #[.string st,.string sc] 99)).drew (by omega) hSA)
    clear IH HTL hSA
    go_wp2_with fail
    go_region_law (go_simp; refine (uh HIH).mono ?_; rintro e w4 ⟨rfl,b4⟩; have hd4:=uh HOLD w4 b4; have d0:=hd4.1; have d1:=hd4.2.1; have f4:=hd4.2.2)
    all_goals
     have HK4:Hid (w4.heap[w2.heap.size]?=some (.cells #[.string st,.string sc] 99 (0,0))):=uh HOP w4 b4
     have HB4:=zab (uh HBL w4 b4)
     clear b4 hd4 HIH HOLD HOP HBL
     have HK5:Hid ((w4.setCell ⟨w2.heap.size,1,none⟩ (.string sz)).heap[w2.heap.size]?=some (.cells #[.string st,.string sz] 99 (0,0))):=heap_setCell_same w4 w2.heap.size 1 _ _ _ (uh HK4)
     have HB5:=zab ((uh HB4).setCell (p:=⟨w2.heap.size,1,none⟩) (by have:=uh HZ2; exact this) (.string sz))
     have e0:(w4.setCell ⟨w2.heap.size,1,none⟩ (.string sz)).cell? ⟨w2.heap.size,0,none⟩=some (.string st):=yF (uh HK5) 0
     have e1:(w4.setCell ⟨w2.heap.size,1,none⟩ (.string sz)).cell? ⟨w2.heap.size,1,none⟩=some (.string sz):=yF (uh HK5) 1
     have HW6:=zab (uh HWI2 (w4.setCell ⟨w2.heap.size,1,none⟩ (.string sz)))
     clear HK4 HK5 HB4 HWI2 d0 d1 f4
     generalize (if cap=1 then some (⟨g,off,none⟩ : Addr) else some ⟨g,off+1,none⟩)=ad at *
     go_wp2_with fail
     generalize (w4.setCell ⟨w2.heap.size,1,none⟩ (.string sz))=w5 at *
     refine (uh HW6).mono ?_
     rintro e w6 ⟨rfl,b6⟩
     have HB6:=zab (zaa (uh HB5) b6)
     clear HW6 b6 e0 e1
     go_wp2
     go_ret
     exact⟨rfl,uh HB6⟩
theorem zbC {v h:JV} {ts:List (List UInt8)} (e:za0 v ts=some h) : zpW v ts = .tuple #[.string (zac (ct h)),.bool true]:=by unfold zpW; rw[e]
theorem zff {v:JV} {ts:List (List UInt8)} (e:za0 v ts=none) : zpW v ts = .tuple #[.string ⟨#[]⟩,.bool false]:=by unfold zpW; rw[e]
theorem SS.init {w:World} {a:Option Addr} {g off:Nat} {xs:List (List UInt8)} {t:List UInt8} (h:SS w a g off ((xs++[t]).map baT)) : SS w a g off (xs.map baT)/\a=some ⟨g,off,none⟩/\w.cell? ⟨g,off+xs.length,none⟩=some (.string (zac t)):=by
 have hlen:((xs++[t]).map baT).length=xs.length+1:=by simp
 refine⟨⟨fun h0=>h.ad (by rw[hlen]; omega),fun j hj=>?_⟩,h.ad (by rw[hlen]; omega),?_⟩
 ·rw[yl] at hj
  have:=h.cell j (by rw[hlen]; omega)
  rw[this,yw]
  simp[List.getElem?_append_left,hj]
 ·have:=h.cell xs.length (by rw[hlen]; omega)
  rw[this]
  simp[baT,zac]
theorem zcb:∀ {ts:List (List UInt8)} {v u:JV},GdT v->za0 v ts=some u->(ct u).length<=(ct v).length
 | [],v,u,_,e=>by
  rw[zcS] at e
  injection e with e
  subst e
  exact ye _
 | t :: ts,v,u,h,e=>by
  rw[zbV] at e
  cases hc:zal v t with
  | none=>rw[hc] at e; cases e
  | some x=>
   rw[hc] at e
   have h1:=zcb (h.child hc) e
   have h2:=(zbG hc h.ok h.tw).2.2.1
   omega
theorem zqf {v c:JV} {t:List UInt8} (hv:GdT v) (hc:zal v t=some c) (ht:t.length<=1048576) (hl:(ct v).length<=100000) (w:World) :
  Calls prog 121 #[.string (zac (ct v)),.string (zac t)] w fun e w'=>∃ (j:Nat) (hj:j < (zae v).length),e = .returned (.int .i64 (j:Int))/\(zae v)[j].1=t/\Below w.heap.size w w':=by
 refine (zfX v hv.ok hv.tw t ht w (by omega)).mono ?_
 rintro e w1 ⟨b1,⟨rfl,hcn⟩ | ⟨j,hj,u',rfl,_,_,hpk⟩⟩
 ·rw[hc] at hcn; cases hcn
 ·exact⟨j,hj,rfl,hpk,b1⟩
theorem zmi {v c:JV} {t:List UInt8} (hc:zal v t=some c) : kd v=5∨kd v=6:=by
 cases v with
 | arr l=>exact .inl rfl
 | obj m=>exact .inr rfl
 | _=>cases hc
theorem zqg (v h c:JV) (xs:List (List UInt8)) (t:List UInt8) (a:Option Addr) (g off cap:Nat) (w:World) (hv:GdT v) (hg:za0 v xs=some h) (hc:zal h t=some c) (hl:(ct v).length<=100000) (hts:∀ x∈xs++[t],x.length<=1048576) (hn:xs.length<=1048576) (hcap:xs.length+1<=cap) (hss:SS w a g off ((xs++[t]).map baT)) :
  Calls prog 95 #[.string (zac (ct v)),.slice a (xs.length+1) cap] w fun e w'=>e = .returned (.string (zac (ct (zcT v xs (za6 h t)))))/\Below w.heap.size w w':=by
 obtain⟨hs1,rfl,hct⟩:=SS.init hss
 have hgh:=hv.get hg
 have hlh:=zcb hv hg
 have hdg:=zg7 hgh hc
 have hdl:=zf2 hc
 have hsl:=zci (u:=za6 h t) hv hg
 have htt:t.length<=1048576:=hts t (by simp)
 have HGET:=zab (zbT v hv.ok hv.tw (by omega) (some ⟨g,off,none⟩) g off cap xs w hs1 (by omega) (fun x hx=>hts x (List.mem_append_left _ hx)))
 rw[zbC hg] at HGET
 have HCH:Hid (∀ wx,Calls prog 121 #[.string (zac (ct h)),.string (zac t)] wx fun e w'=>∃ (j:Nat) (hj:j < (zae h).length),e = .returned (.int .i64 (j:Int))/\(zae h)[j].1=t/\Below wx.heap.size wx w'):=fun wx=>zqf hgh hc htt (by omega) wx
 have HWI:Hid (∀ (j:Nat) (hj:j < (zae h).length) (wx:World),(zae h)[j].1=t->Calls prog 123 #[.string (zac (ct h)),.int .i64 (j:Int),.bool true,.bool false,.agg #[.string ⟨#[]⟩,.string ⟨#[]⟩]] wx fun e w'=>e = .returned (.string (zac (ct (za6 h t))))/\Below wx.heap.size wx w'):=fun j hj wx hk=>by
  obtain⟨s1,s2,s3⟩:=zew hgh.ok hgh.tw (zmi hc) (by omega) j true false ([],[]) (by simp) (by simp)
  have hpl:=zbq hgh.ok (show (ct h).length<=1000000 by omega)
  have:=zfd h hgh.ok (by omega) j true false ([],[]) wx (by omega) s1 s2 s3
  rw[zsD hgh hc hj hk] at this
  exact this
 have HSET:Hid (∀ wx,Below w.heap.size w wx->Calls prog 96 #[.string (zac (ct v)),.slice (some ⟨g,off,none⟩) xs.length cap,.string (zac (ct (za6 h t)))] wx fun e w'=>e = .returned (.string (zac (ct (zcT v xs (za6 h t)))))/\Below wx.heap.size wx w'):=fun wx hx=>zex xs v (za6 h t) h (some ⟨g,off,none⟩) g off cap wx hv hdg hg hl (by omega) (fun x hx=>hts x (List.mem_append_left _ hx)) (by omega) (by omega) (hs1.below hx)
 have HCT:Hid (∀ wx,Below w.heap.size w wx->wx.cell? ⟨g,off+xs.length,none⟩=some (.string (zac t))):=fun wx hx=>(hx.cell (p:=⟨g,off+xs.length,none⟩) (yJ _ _ hct)).trans hct
 have hsub:(xs.length:Int)+1 - 1=(xs.length:Int):=by omega
 have hlec:xs.length<=cap:=by omega
 have hltI:(xs.length:Int) < (xs.length:Int)+1:=by omega
 have hltN:xs.length < xs.length+1:=by omega
 clear hss hs1 hct hgh hlh hdg hdl hsl hv hg hc hl hts htt
 generalize zac (ct (zcT v xs (za6 h t)))=R at *
 generalize zac (ct (za6 h t))=D at *
 generalize zac (ct v)=sv at *
 generalize zac (ct h)=sh at *
 generalize zac t=st at *
 go_enter func95,ntmps95
 go_wp2_with fail
 refine (uh HGET).mono ?_
 rintro e w1 ⟨rfl,b1⟩
 have bD:Below w.heap.size w w1.drew:=b1.drew
 have cD:=uh HCT w1.drew bD
 have HB1:=zab b1
 clear HGET b1
 go_wp2_with fail
 go_region_law (first
  | (have hq:=b5'; go_simp; refine (uh HSET _ b5').mono ?_; rintro e w6 ⟨rfl,b6⟩)
  | (have hq:=b4'; go_simp; refine (uh HWI j hj w4 hpk).mono ?_; rintro e w5 ⟨rfl,b5⟩; have b5':=zaa b4' b5)
  | (go_simp; refine (uh HCH _).mono ?_; rintro e w4 ⟨j,hj,rfl,hpk,b4⟩; have b4':=zaa bD b4; have c4:=uh HCT w4 b4'))
 all_goals
  have HBF:=zab (zaa b5' b6)
  clear b4 b5 b6 b4' b5' HSET HWI HCH HCT bD cD
  go_wp2
  go_ret
  exact⟨rfl,uh HBF⟩
theorem zey {v:JV} (h:okV v) (h0:0 < (zac (ct v)).size) : ∃ c:Nat,(zac (ct v))[0].toNat=c/\(c=91↔kd v=5)/\(c=123↔kd v=6):=by
 obtain⟨c,r,e,f⟩:=zlB h
 refine⟨c.toNat,?_,?_,?_⟩
 ·rw[← zas _ 0 h0,e]
  exact (zb0 (c:=c) (r:=r)).2
 ·rw[← f]
  unfold fb
  by_cases h1:c.toNat=91
  ·rw[h1]; simp
  ·constructor
   ·intro e; exact absurd e h1
   ·intro e
    exfalso
    revert e
    repeat (first | (split; omega) | split)
    all_goals omega
 ·rw[← f]
  unfold fb
  by_cases h1:c.toNat=123
  ·rw[h1]; simp
  ·constructor
   ·intro e; exact absurd e h1
   ·intro e
    exfalso
    revert e
    repeat (first | (split; omega) | split)
    all_goals omega
def zsG:Option JV->Value
 | none=>.tuple #[.string ⟨#[]⟩,.bool false]
 | some r=>.tuple #[.string (zac (ct r)),.bool true]
theorem zsH (v u:JV) (xs:List (List UInt8)) (t:List UInt8) (a:Option Addr) (g off cap:Nat) (w:World) (hv:GdT v) (hl:(ct v).length<=100000) (hts:∀ x∈xs++[t],x.length<=1048576) (hn:xs.length<=1048576) (hcap:xs.length+1<=cap) (hss:SS w a g off ((xs++[t]).map baT)) (hg:za0 v xs=none) :
  Calls prog 93 #[.string (zac (ct v)),.slice a (xs.length+1) cap,.string (zac (ct u))] w fun e w'=>e = .returned (.tuple #[.string ⟨#[]⟩,.bool false])/\Below w.heap.size w w':=by
 obtain⟨hs1,rfl,hct⟩:=SS.init hss
 have htt:t.length<=1048576:=hts t (by simp)
 have HGET:=zab (zbT v hv.ok hv.tw (by omega) (some ⟨g,off,none⟩) g off cap xs w hs1 (by omega) (fun x hx=>hts x (List.mem_append_left _ hx)))
 have HCT:Hid (∀ wx,Below w.heap.size w wx->wx.cell? ⟨g,off+xs.length,none⟩=some (.string (zac t))):=fun wx hx=>(hx.cell (p:=⟨g,off+xs.length,none⟩) (yJ _ _ hct)).trans hct
 have hsub:(xs.length:Int)+1 - 1=(xs.length:Int):=by omega
 have hlec:xs.length<=cap:=by omega
 have hltI:(xs.length:Int) < (xs.length:Int)+1:=by omega
 rw[zff hg] at HGET
 clear hg HCT
 clear hss hs1 hct hv hl hts htt hcap
 generalize zac (ct v)=sv at *
 generalize zac (ct u)=su at *
 go_enter func93,ntmps93
 go_wp2_with fail
 refine (uh HGET).mono ?_
 rintro e w1 ⟨rfl,b1⟩
 have HB1:=zab b1
 clear HGET b1
 go_wp2
 go_ret2
 exact⟨rfl,uh HB1⟩
theorem zfg (v u:JV) (xs:List (List UInt8)) (t:List UInt8) (a:Option Addr) (g off cap:Nat) (w:World) (hv:GdT v) (hl:(ct v).length<=100000) (hts:∀ x∈xs++[t],x.length<=1048576) (hn:xs.length<=1048576) (hcap:xs.length+1<=cap) (hss:SS w a g off ((xs++[t]).map baT)) (h:JV) (hg:za0 v xs=some h) (k5:kd h≠5) (k6:kd h≠6) :
  Calls prog 93 #[.string (zac (ct v)),.slice a (xs.length+1) cap,.string (zac (ct u))] w fun e w'=>e = .returned (.tuple #[.string ⟨#[]⟩,.bool false])/\Below w.heap.size w w':=by
 obtain⟨hs1,rfl,hct⟩:=SS.init hss
 have htt:t.length<=1048576:=hts t (by simp)
 have HGET:=zab (zbT v hv.ok hv.tw (by omega) (some ⟨g,off,none⟩) g off cap xs w hs1 (by omega) (fun x hx=>hts x (List.mem_append_left _ hx)))
 have HCT:Hid (∀ wx,Below w.heap.size w wx->wx.cell? ⟨g,off+xs.length,none⟩=some (.string (zac t))):=fun wx hx=>(hx.cell (p:=⟨g,off+xs.length,none⟩) (yJ _ _ hct)).trans hct
 have hsub:(xs.length:Int)+1 - 1=(xs.length:Int):=by omega
 have hlec:xs.length<=cap:=by omega
 have hltI:(xs.length:Int) < (xs.length:Int)+1:=by omega
 have hgh:=hv.get hg
 have hlh:=zcb hv hg
 have h0:=zd0 hgh.ok
 have h0I:(0:Int) < ((zac (ct h)).size:Int):=by omega
 rw[zbC hg] at HGET
 obtain⟨c,hc,c5,c6⟩:=zey hgh.ok h0
 have f1:(((zac (ct h))[0].toNat:Int) != 91)=true:=by
  rw[hc]; simp; intro e; exact k5 (c5.1 (by omega))
 have f2:(((zac (ct h))[0].toNat:Int) != 123)=true:=by
  rw[hc]; simp; intro e; exact k6 (c6.1 (by omega))
 clear hc c5 c6 k5 k6 hg hgh hlh HCT
 clear hss hs1 hct hv hl hts htt hcap
 generalize zac (ct v)=sv at *
 generalize zac (ct u)=su at *
 generalize zac (ct h)=sh at *
 go_enter func93,ntmps93
 go_wp2_with fail
 refine (uh HGET).mono ?_
 rintro e w1 ⟨rfl,b1⟩
 have HB1:=zab b1
 clear HGET b1
 go_wp2
 go_ret2
 exact⟨rfl,uh HB1⟩
theorem zu6 (v u:JV) (xs:List (List UInt8)) (t:List UInt8) (a:Option Addr) (g off cap:Nat) (w:World) (hv:GdT v) (hl:(ct v).length<=100000) (hts:∀ x∈xs++[t],x.length<=1048576) (hn:xs.length<=1048576) (hcap:xs.length+1<=cap) (hss:SS w a g off ((xs++[t]).map baT)) (m:JM) (hg:za0 v xs=some (.obj m)) (hbad:Lib.validD t=false) :
  Calls prog 93 #[.string (zac (ct v)),.slice a (xs.length+1) cap,.string (zac (ct u))] w fun e w'=>e = .returned (.tuple #[.string ⟨#[]⟩,.bool false])/\Below w.heap.size w w':=by
 obtain⟨hs1,rfl,hct⟩:=SS.init hss
 have htt:t.length<=1048576:=hts t (by simp)
 have HGET:=zab (zbT v hv.ok hv.tw (by omega) (some ⟨g,off,none⟩) g off cap xs w hs1 (by omega) (fun x hx=>hts x (List.mem_append_left _ hx)))
 have HCT:Hid (∀ wx,Below w.heap.size w wx->wx.cell? ⟨g,off+xs.length,none⟩=some (.string (zac t))):=fun wx hx=>(hx.cell (p:=⟨g,off+xs.length,none⟩) (yJ _ _ hct)).trans hct
 have hsub:(xs.length:Int)+1 - 1=(xs.length:Int):=by omega
 have hlec:xs.length<=cap:=by omega
 have hltI:(xs.length:Int) < (xs.length:Int)+1:=by omega
 have hgh:=hv.get hg
 have hlh:=zcb hv hg
 have h0:=zd0 hgh.ok
 have h0I:(0:Int) < ((zac (ct (.obj m))).size:Int):=by omega
 rw[zbC hg] at HGET
 obtain⟨c,hc,c5,c6⟩:=zey hgh.ok h0
 have hc123:c=123:=c6.2 rfl
 have f1:(((zac (ct (.obj m)))[0].toNat:Int) != 91)=true:=by rw[hc,hc123]; rfl
 have f2:(((zac (ct (.obj m)))[0].toNat:Int) != 123)=false:=by rw[hc,hc123]; rfl
 have f3:(((zac (ct (.obj m)))[0].toNat:Int) == 123)=true:=by rw[hc,hc123]; rfl
 clear hc c5 c6 hc123
 have HV:Hid (∀ wx,Calls prog 122 #[.string (zac t)] wx fun e w'=>e = .returned (.bool (Lib.validD t))/\Below wx.heap.size wx w'):=fun wx=>by
  have:=zf7 (zac t) wx (by rw[zaf]; exact htt)
  rwa [zad] at this
 rw[hbad] at HV
 clear hbad hg hgh hlh
 clear hss hs1 hct hv hl hts htt hcap
 generalize zac (ct v)=sv at *
 generalize zac (ct u)=su at *
 generalize zac (ct (.obj m))=sh at *
 generalize zac t=st at *
 go_enter func93,ntmps93
 go_wp2_with fail
 refine (uh HGET).mono ?_
 rintro e w1 ⟨rfl,b1⟩
 have c1:=uh HCT w1 b1
 have HB1:=zab b1
 have kA:=yG w1 (.cells #[.string st,.string su] 99)
 have bA:=zaa b1 (zai w1 (.cells #[.string st,.string su] 99))
 have HKP:Hid (∀ wx,Below (w1.alloc (.cells #[.string st,.string su] 99)).heap.size (w1.alloc (.cells #[.string st,.string su] 99)) wx->wx.cell? ⟨w1.heap.size,0,none⟩=some (.string st)/\wx.cell? ⟨w1.heap.size,1,none⟩=some (.string su)):=fun wx hx=>by
  have k:=(hx.block w1.heap.size (yB.1 kA).1).trans kA
  exact⟨yF k 0,yF k 1⟩
 have cA:=uh HCT _ bA
 have HBA:=zab bA
 clear HGET b1 kA bA
 have HV1:=zab (uh HV (w1.alloc (.cells #[.string st,.string su] 99)))
 clear HV HKP HCT
 go_wp2_with fail
 generalize (w1.alloc (.cells #[.string st,.string su] 99))=wA at *
 refine (uh HV1).mono ?_
 rintro e w2 ⟨rfl,b2⟩
 have HB2:=zab (zaa (uh HBA) b2)
 clear HV1 b2 c1 cA
 go_wp2
 go_ret2
 exact⟨rfl,uh HB2⟩
theorem zu7 (v u:JV) (xs:List (List UInt8)) (t:List UInt8) (a:Option Addr) (g off cap:Nat) (w:World) (hv:GdT v) (hu:GdT u) (hl:(ct v).length<=100000) (hul:(ct u).length<=100000) (hts:∀ x∈xs++[t],x.length<=1048576) (hn:xs.length<=1048576) (hcap:xs.length+1<=cap) (hss:SS w a g off ((xs++[t]).map baT)) (m:JM) (c:JV) (hg:za0 v xs=some (.obj m)) (hgood:Lib.validD t=true) (hch:zal (.obj m) t=some c) :
  Calls prog 93 #[.string (zac (ct v)),.slice a (xs.length+1) cap,.string (zac (ct u))] w fun e w'=>e = .returned (.tuple #[.string (zac (ct (zcT v xs (zby (.obj m) t u)))),.bool true])/\Below w.heap.size w w':=by
 obtain⟨hs1,rfl,hct⟩:=SS.init hss
 have htt:t.length<=1048576:=hts t (by simp)
 have HGET:=zab (zbT v hv.ok hv.tw (by omega) (some ⟨g,off,none⟩) g off cap xs w hs1 (by omega) (fun x hx=>hts x (List.mem_append_left _ hx)))
 have HCT:Hid (∀ wx,Below w.heap.size w wx->wx.cell? ⟨g,off+xs.length,none⟩=some (.string (zac t))):=fun wx hx=>(hx.cell (p:=⟨g,off+xs.length,none⟩) (yJ _ _ hct)).trans hct
 have hsub:(xs.length:Int)+1 - 1=(xs.length:Int):=by omega
 have hlec:xs.length<=cap:=by omega
 have hltI:(xs.length:Int) < (xs.length:Int)+1:=by omega
 have hgh:=hv.get hg
 have hlh:=zcb hv hg
 have h0:=zd0 hgh.ok
 have h0I:(0:Int) < ((zac (ct (.obj m))).size:Int):=by omega
 rw[zbC hg] at HGET
 obtain⟨cb,hc,c5,c6⟩:=zey hgh.ok h0
 have hc123:cb=123:=c6.2 rfl
 have f1:(((zac (ct (.obj m)))[0].toNat:Int) != 91)=true:=by rw[hc,hc123]; rfl
 have f2:(((zac (ct (.obj m)))[0].toNat:Int) != 123)=false:=by rw[hc,hc123]; rfl
 have f3:(((zac (ct (.obj m)))[0].toNat:Int) == 123)=true:=by rw[hc,hc123]; rfl
 clear hc c5 c6 hc123
 have HV:Hid (∀ wx,Calls prog 122 #[.string (zac t)] wx fun e w'=>e = .returned (.bool (Lib.validD t))/\Below wx.heap.size wx w'):=fun wx=>by
  have:=zf7 (zac t) wx (by rw[zaf]; exact htt)
  rwa [zad] at this
 have hpl:=zbq hgh.ok (show (ct (.obj m)).length<=1000000 by omega)
 have HPA:Hid (∀ wx,Calls prog 47 #[.string (zac (ct (.obj m)))] wx fun e w'=>∃ r,e = .returned r/\PR w' wx.heap.size r (zae (.obj m))/\Below wx.heap.size wx w'):=fun wx=>zch (.obj m) hgh.ok wx (by omega)
 have HFI:Hid (∀ (wx:World) (B:Nat) (r:Value),PR wx B r (zae (.obj m))->Calls prog 91 #[r,.string (zac t)] wx fun e w'=>wx=w'/\∃ j:Nat,e = .returned (.int .i64 (j:Int))/\j<=1000000):=fun wx B r hr=>by
  refine (zg4 B r (zae (.obj m)) t wx hr (by omega)).mono ?_
  rintro e w' ⟨rfl,⟨rfl,hno⟩ | ⟨j,hj,rfl,hk⟩⟩
  ·rw[zcX hno] at hch; cases hch
  ·exact⟨rfl,j,rfl,by omega⟩
 have HSET:Hid (∀ wx,Below w.heap.size w wx->Calls prog 96 #[.string (zac (ct v)),.slice (some ⟨g,off,none⟩) (xs.length+1) cap,.string (zac (ct u))] wx fun e w'=>e = .returned (.string (zac (ct (zcT v xs (zby (.obj m) t u)))))/\Below wx.heap.size wx w'):=fun wx hx=>by
  have e1:za0 v (xs++[t])=some c:=by rw[zeK,hg]; show za0 (.obj m) [t]=_; rw[zbV,hch]; exact zcS c
  have e2:=zkz xs v (.obj m) c t u hg hch
  have e3:=zci (u:=u) hv e1
  have:=zex (xs++[t]) v u c (some ⟨g,off,none⟩) g off cap wx hv hu e1 hl (by omega) hts (by simp; omega) (by simp; omega) (hss.below hx)
  rw[e2,yh] at this
  exact this
 rw[hgood] at HV
 clear hgood hg hgh hlh hch hpl
 clear hss hs1 hct hv hu hl hul hts htt hcap
 generalize zac (ct (zcT v xs (zby (.obj m) t u)))=R at *
 generalize zac (ct v)=sv at *
 generalize zac (ct u)=su at *
 generalize zac (ct (.obj m))=sh at *
 generalize zac t=st at *
 generalize zae (.obj m)=ps at *
 go_enter func93,ntmps93
 go_wp2_with fail
 refine (uh HGET).mono ?_
 rintro e w1 ⟨rfl,b1⟩
 have c1:=uh HCT w1 b1
 have HB1:=zab b1
 have kA:=yG w1 (.cells #[.string st,.string su] 99)
 have bA:=zaa b1 (zai w1 (.cells #[.string st,.string su] 99))
 have HKP:Hid (∀ wx,Below (w1.alloc (.cells #[.string st,.string su] 99)).heap.size (w1.alloc (.cells #[.string st,.string su] 99)) wx->wx.cell? ⟨w1.heap.size,0,none⟩=some (.string st)/\wx.cell? ⟨w1.heap.size,1,none⟩=some (.string su)):=fun wx hx=>by
  have k:=(hx.block w1.heap.size (yB.1 kA).1).trans kA
  exact⟨yF k 0,yF k 1⟩
 have cA:=uh HCT _ bA
 have HBA:=zab bA
 clear HGET b1 kA bA
 have HV1:=zab (uh HV (w1.alloc (.cells #[.string st,.string su] 99)))
 clear HV
 go_wp2_with fail
 generalize (w1.alloc (.cells #[.string st,.string su] 99))=wA at *
 refine (uh HV1).mono ?_
 rintro e w2 ⟨rfl,b2⟩
 have HB2:=zab (zaa (uh HBA) b2)
 have bD:Below w.heap.size w w2.drew:=(uh HB2).drew
 have cD:=uh HCT w2.drew bD
 have HQ2:=zab b2
 clear HV1 b2 c1 cA
 go_wp2_with fail
 go_region_law (first
  | (have hq:=b4'; go_simp; refine (uh HFI _ _ _ p4).mono ?_; rintro e w5 ⟨rfl,j,rfl,hj⟩)
  | (go_simp; refine (uh HPA _).mono ?_; rintro e w4 ⟨r4,rfl,p4,b4⟩; have b4':=zaa bD b4; have c4:=uh HCT w4 b4'))
 all_goals
  have hj0:(0:Int)<=(j:Int):=by omega
  have HS:=zab (uh HSET w4 b4')
  have HB4:=zab b4'
  clear b4 b4' p4 c4 HSET HPA HFI HCT HKP cD bD
  go_wp2_with fail
  refine (uh HS).mono ?_
  rintro e w6 ⟨rfl,b6⟩
  have HB6:=zab (zaa (uh HB4) b6)
  clear HS b6
  go_wp2
  go_ret2
  exact⟨rfl,uh HB6⟩
theorem zu8 (v u:JV) (xs:List (List UInt8)) (t:List UInt8) (a:Option Addr) (g off cap:Nat) (w:World) (hv:GdT v) (hu:GdT u) (hl:(ct v).length<=100000) (hul:(ct u).length<=100000) (hts:∀ x∈xs++[t],x.length<=1048576) (hn:xs.length<=1048576) (hcap:xs.length+1<=cap) (hss:SS w a g off ((xs++[t]).map baT)) (m:JM) (hg:za0 v xs=some (.obj m)) (hgood:Lib.validD t=true) (hch:zal (.obj m) t=none) :
  Calls prog 93 #[.string (zac (ct v)),.slice a (xs.length+1) cap,.string (zac (ct u))] w fun e w'=>e = .returned (.tuple #[.string (zac (ct (zcT v xs (.obj (JM.ofL (m.toL++[(t,u)])))))),.bool true])/\Below w.heap.size w w':=by
 obtain⟨hs1,rfl,hct⟩:=SS.init hss
 have htt:t.length<=1048576:=hts t (by simp)
 have HGET:=zab (zbT v hv.ok hv.tw (by omega) (some ⟨g,off,none⟩) g off cap xs w hs1 (by omega) (fun x hx=>hts x (List.mem_append_left _ hx)))
 have HCT:Hid (∀ wx,Below w.heap.size w wx->wx.cell? ⟨g,off+xs.length,none⟩=some (.string (zac t))):=fun wx hx=>(hx.cell (p:=⟨g,off+xs.length,none⟩) (yJ _ _ hct)).trans hct
 have hsub:(xs.length:Int)+1 - 1=(xs.length:Int):=by omega
 have hlec:xs.length<=cap:=by omega
 have hltI:(xs.length:Int) < (xs.length:Int)+1:=by omega
 have hgh:=hv.get hg
 have hlh:=zcb hv hg
 have h0:=zd0 hgh.ok
 have h0I:(0:Int) < ((zac (ct (.obj m))).size:Int):=by omega
 rw[zbC hg] at HGET
 have hput:za7 (.obj m) t u=some (.obj (JM.ofL (m.toL++[(t,u)]))):=by simp only[za7]; rw[yg hgood,hch]; rfl
 obtain⟨cb,hc,c5,c6⟩:=zey hgh.ok h0
 have hc123:cb=123:=c6.2 rfl
 have f1:(((zac (ct (.obj m)))[0].toNat:Int) != 91)=true:=by rw[hc,hc123]; rfl
 have f2:(((zac (ct (.obj m)))[0].toNat:Int) != 123)=false:=by rw[hc,hc123]; rfl
 have f3:(((zac (ct (.obj m)))[0].toNat:Int) == 123)=true:=by rw[hc,hc123]; rfl
 clear hc c5 c6 hc123
 have HV:Hid (∀ wx,Calls prog 122 #[.string (zac t)] wx fun e w'=>e = .returned (.bool (Lib.validD t))/\Below wx.heap.size wx w'):=fun wx=>by
  have:=zf7 (zac t) wx (by rw[zaf]; exact htt)
  rwa [zad] at this
 have hpl:=zbq hgh.ok (show (ct (.obj m)).length<=1000000 by omega)
 have HPA:Hid (∀ wx,Calls prog 47 #[.string (zac (ct (.obj m)))] wx fun e w'=>∃ r,e = .returned r/\PR w' wx.heap.size r (zae (.obj m))/\Below wx.heap.size wx w'):=fun wx=>zch (.obj m) hgh.ok wx (by omega)
 have HFI:Hid (∀ (wx:World) (B:Nat) (r:Value),PR wx B r (zae (.obj m))->Calls prog 91 #[r,.string (zac t)] wx fun e w'=>wx=w'/\e = .returned (.int .i64 (-1))):=fun wx B r hr=>by
  refine (zg4 B r (zae (.obj m)) t wx hr (by omega)).mono ?_
  rintro e w' ⟨rfl,⟨rfl,_⟩ | ⟨j,hj,rfl,hk⟩⟩
  ·exact⟨rfl,rfl⟩
  ·obtain⟨c,h1,_⟩:=zdO hgh.ok hgh.tw (fun ⟨l,e⟩=>by cases e) hj hk
   rw[h1] at hch; cases hch
 have hrg:=zf0 hgh hu hput
 have hrl:=zhb hgh hput
 have hsl:=zci (u:=(.obj (JM.ofL (m.toL++[(t,u)])))) hv hg
 have HWI:Hid (∀ (wx:World),Calls prog 123 #[.string (zac (ct (.obj m))),.int .i64 0,.bool false,.bool true,.agg #[.string (zac t),.string (zac (ct u))]] wx fun e w'=>e = .returned (.string (zac (ct (.obj (JM.ofL (m.toL++[(t,u)]))))))/\Below wx.heap.size wx w'):=fun wx=>by
  obtain⟨s1,s2,s3⟩:=zew hgh.ok hgh.tw (.inr rfl) (by omega) 0 false true (t,ct u) htt (by show (ct u).length<=_; omega)
  have:=zfd (.obj m) hgh.ok (by omega) 0 false true (t,ct u) wx (by omega) s1 s2 s3
  rw[zsF hgh hch] at this
  exact this
 have HSET:Hid (∀ wx,Below w.heap.size w wx->Calls prog 96 #[.string (zac (ct v)),.slice (some ⟨g,off,none⟩) xs.length cap,.string (zac (ct (.obj (JM.ofL (m.toL++[(t,u)])))))] wx fun e w'=>e = .returned (.string (zac (ct (zcT v xs (.obj (JM.ofL (m.toL++[(t,u)])))))))/\Below wx.heap.size wx w'):=fun wx hx=>zex xs v (.obj (JM.ofL (m.toL++[(t,u)]))) (.obj m) (some ⟨g,off,none⟩) g off cap wx hv hrg hg hl (by omega) (fun x hx=>hts x (List.mem_append_left _ hx)) (by omega) (by omega) (hs1.below hx)
 rw[hgood] at HV
 clear hgood hg hgh hlh hch hpl hput hrg hrl hsl
 clear hss hs1 hct hv hu hl hul hts htt hcap
 generalize zac (ct (zcT v xs (.obj (JM.ofL (m.toL++[(t,u)])))))=R at *
 generalize zac (ct (.obj (JM.ofL (m.toL++[(t,u)]))))=D at *
 generalize zac (ct v)=sv at *
 generalize zac (ct u)=su at *
 generalize zac (ct (.obj m))=sh at *
 generalize zac t=st at *
 generalize zae (.obj m)=ps at *
 go_enter func93,ntmps93
 go_wp2_with fail
 refine (uh HGET).mono ?_
 rintro e w1 ⟨rfl,b1⟩
 have c1:=uh HCT w1 b1
 have HB1:=zab b1
 have kA:=yG w1 (.cells #[.string st,.string su] 99)
 have bA:=zaa b1 (zai w1 (.cells #[.string st,.string su] 99))
 have HKP:Hid (∀ wx,Below (w1.alloc (.cells #[.string st,.string su] 99)).heap.size (w1.alloc (.cells #[.string st,.string su] 99)) wx->wx.cell? ⟨w1.heap.size,0,none⟩=some (.string st)/\wx.cell? ⟨w1.heap.size,1,none⟩=some (.string su)):=fun wx hx=>by
  have k:=(hx.block w1.heap.size (yB.1 kA).1).trans kA
  exact⟨yF k 0,yF k 1⟩
 have cA:=uh HCT _ bA
 have HBA:=zab bA
 clear HGET b1 kA bA
 have HV1:=zab (uh HV (w1.alloc (.cells #[.string st,.string su] 99)))
 clear HV
 go_wp2_with fail
 generalize (w1.alloc (.cells #[.string st,.string su] 99))=wA at *
 refine (uh HV1).mono ?_
 rintro e w2 ⟨rfl,b2⟩
 have HB2:=zab (zaa (uh HBA) b2)
 have bD:Below w.heap.size w w2.drew:=(uh HB2).drew
 have cD:=uh HCT w2.drew bD
 have HQ2:=zab b2
 clear HV1 b2 c1 cA
 go_wp2_with fail
 go_region_law (first
  | (have hq:=b4'; go_simp; refine (uh HFI _ _ _ p4).mono ?_; rintro e w5 ⟨rfl,rfl⟩)
  | (go_simp; refine (uh HPA _).mono ?_; rintro e w4 ⟨r4,rfl,p4,b4⟩; have b4':=zaa bD b4; have c4:=uh HCT w4 b4'))
 all_goals
  have bP:=zaa (uh HQ2).drew b4
  have bD5:Below w.heap.size w w4.drew:=b4'.drew
  have bP5:=bP.drew
  obtain⟨y0,y1⟩:=uh HKP w4.drew bP5
  have HB4:=zab b4'
  clear b4 p4 c4 HPA HFI cD bD b4' bP
  go_wp2_with fail
  go_region_law (first
   | (have hq:=b6'; go_simp; refine (uh HSET _ b6').mono ?_; rintro e w7 ⟨rfl,b7⟩)
   | (go_simp; refine (uh HWI _).mono ?_; rintro e w6 ⟨rfl,b6⟩; have b6':=zaa bD5 b6; have z6:=uh HKP w6 (zaa bP5 b6); have z0:=z6.1; have z1:=z6.2))
  all_goals
   have HBF:=zab (zaa b6' b7)
   clear b6 b6' b7 bD5 bP5 z6 z0 z1 y0 y1 HSET HWI HKP HCT
   go_wp2
   go_ret2
   exact⟨rfl,uh HBF⟩
def atA (l:JL) (t:List UInt8) : Option Nat:=if t=[45] then some l.toL.length else zgh t
theorem zqh (v u:JV) (xs:List (List UInt8)) (t:List UInt8) (a:Option Addr) (g off cap:Nat) (w:World) (hv:GdT v) (hl:(ct v).length<=100000) (hts:∀ x∈xs++[t],x.length<=1048576) (hn:xs.length<=1048576) (hcap:xs.length+1<=cap) (hss:SS w a g off ((xs++[t]).map baT)) (l:JL) (hg:za0 v xs=some (.arr l)) (hat:∀ i,atA l t=some i->l.toL.length < i) :
  Calls prog 93 #[.string (zac (ct v)),.slice a (xs.length+1) cap,.string (zac (ct u))] w fun e w'=>e = .returned (.tuple #[.string ⟨#[]⟩,.bool false])/\Below w.heap.size w w':=by
 obtain⟨hs1,rfl,hct⟩:=SS.init hss
 have htt:t.length<=1048576:=hts t (by simp)
 have HGET:=zab (zbT v hv.ok hv.tw (by omega) (some ⟨g,off,none⟩) g off cap xs w hs1 (by omega) (fun x hx=>hts x (List.mem_append_left _ hx)))
 have HCT:Hid (∀ wx,Below w.heap.size w wx->wx.cell? ⟨g,off+xs.length,none⟩=some (.string (zac t))):=fun wx hx=>(hx.cell (p:=⟨g,off+xs.length,none⟩) (yJ _ _ hct)).trans hct
 have hsub:(xs.length:Int)+1 - 1=(xs.length:Int):=by omega
 have hlec:xs.length<=cap:=by omega
 have hltI:(xs.length:Int) < (xs.length:Int)+1:=by omega
 have hgh:=hv.get hg
 have hlh:=zcb hv hg
 have h0:=zd0 hgh.ok
 have h0I:(0:Int) < ((zac (ct (.arr l))).size:Int):=by omega
 rw[zbC hg] at HGET
 obtain⟨cb,hcb,c5,c6⟩:=zey hgh.ok h0
 have hc91:cb=91:=c5.2 rfl
 have f1:(((zac (ct (.arr l)))[0].toNat:Int) != 91)=false:=by rw[hcb,hc91]; rfl
 have f3:(((zac (ct (.arr l)))[0].toNat:Int) == 123)=false:=by rw[hcb,hc91]; rfl
 clear hcb c5 c6 hc91
 have hpe:(zae (.arr l)).length=l.toL.length:=by
  have:=congrArg List.length (zca l)
  simpa using this
 have hpl:=zbq hgh.ok (show (ct (.arr l)).length<=1000000 by omega)
 rw[hpe] at hpl
 have HPA:Hid (∀ wx,Calls prog 47 #[.string (zac (ct (.arr l)))] wx fun e w'=>∃ xa xc,e = .returned (.slice xa l.toL.length xc)/\Below wx.heap.size wx w'):=fun wx=>by
  refine (zch (.arr l) hgh.ok wx (by omega)).mono ?_
  rintro e w' ⟨r,rfl,p,b⟩
  obtain⟨xa,xc,rfl⟩:=PR.shape p
  rw[hpe]
  exact⟨xa,xc,rfl,b⟩
 have HIX:Hid (∀ wx,Calls prog 124 #[.string (zac t)] wx fun e w'=>e = .returned (.int .i64 (ziw t))/\wx=w'):=fun wx=>by
  have:=zel (zac t) wx (by rw[zaf]; exact htt)
  rwa [zad] at this
 by_cases hd:t=[45]
 ·have:=hat l.toL.length (by unfold atA; rw[yg hd])
  omega
 ·have hz:ziw t < 0∨¬ ziw t < 0/\(l.toL.length:Int) < ziw t:=by
   unfold ziw
   cases hi:zgh t with
   | none=>left; simp
   | some i=>right; simp only; have:=hat i (by unfold atA; rw[yf hd]; exact hi); omega
  have hne:((zac t).toList == [45])=false:=by
   rw[ByteArray.toList_eq,zad,yd]; exact hd
  generalize ziw t=z at *
  clear hat hg hgh hlh hd hpe
  clear hss hs1 hct hv hl hts htt hcap
  generalize zac (ct v)=sv at *
  generalize zac (ct u)=su at *
  generalize zac (ct (.arr l))=sh at *
  generalize zac t=st at *
  rcases hz with hz | ⟨hz,hz2⟩
  ·go_enter func93,ntmps93
   go_wp2_with fail
   refine (uh HGET).mono ?_
   rintro e w1 ⟨rfl,b1⟩
   have c1:=uh HCT w1 b1
   have HB1:=zab b1
   have kA:=yG w1 (.cells #[.string st,.string su] 99)
   have bA:=zaa b1 (zai w1 (.cells #[.string st,.string su] 99))
   have HKP:Hid (∀ wx,Below (w1.alloc (.cells #[.string st,.string su] 99)).heap.size (w1.alloc (.cells #[.string st,.string su] 99)) wx->wx.cell? ⟨w1.heap.size,0,none⟩=some (.string st)/\wx.cell? ⟨w1.heap.size,1,none⟩=some (.string su)):=fun wx hx=>by
    have k:=(hx.block w1.heap.size (yB.1 kA).1).trans kA
    exact⟨yF k 0,yF k 1⟩
   have HBA:=zab bA
   have HP1:=zab (uh HPA (w1.alloc (.cells #[.string st,.string su] 99)))
   clear HGET b1 kA bA HPA
   go_wp2_with fail
   generalize (w1.alloc (.cells #[.string st,.string su] 99))=wA at *
   refine (uh HP1).mono ?_
   rintro e w2 ⟨xa,xc,rfl,b2⟩
   have hB2:=zaa (uh HBA) b2
   have c2:=uh HCT w2 hB2
   have HB2:=zab hB2
   have HQ2:=zab b2
   have HI2:=zab (uh HIX w2)
   clear HP1 hB2 b2 HIX
   go_wp2_with fail
   refine (uh HI2).mono ?_
   rintro e w2' ⟨rfl,rfl⟩
   clear HI2
   clear HKP HQ2
   go_wp2
   go_ret2
   exact⟨rfl,uh HB2⟩
  ·go_enter func93,ntmps93
   go_wp2_with fail
   refine (uh HGET).mono ?_
   rintro e w1 ⟨rfl,b1⟩
   have c1:=uh HCT w1 b1
   have HB1:=zab b1
   have kA:=yG w1 (.cells #[.string st,.string su] 99)
   have bA:=zaa b1 (zai w1 (.cells #[.string st,.string su] 99))
   have HKP:Hid (∀ wx,Below (w1.alloc (.cells #[.string st,.string su] 99)).heap.size (w1.alloc (.cells #[.string st,.string su] 99)) wx->wx.cell? ⟨w1.heap.size,0,none⟩=some (.string st)/\wx.cell? ⟨w1.heap.size,1,none⟩=some (.string su)):=fun wx hx=>by
    have k:=(hx.block w1.heap.size (yB.1 kA).1).trans kA
    exact⟨yF k 0,yF k 1⟩
   have HBA:=zab bA
   have HP1:=zab (uh HPA (w1.alloc (.cells #[.string st,.string su] 99)))
   clear HGET b1 kA bA HPA
   go_wp2_with fail
   generalize (w1.alloc (.cells #[.string st,.string su] 99))=wA at *
   refine (uh HP1).mono ?_
   rintro e w2 ⟨xa,xc,rfl,b2⟩
   have hB2:=zaa (uh HBA) b2
   have c2:=uh HCT w2 hB2
   have HB2:=zab hB2
   have HQ2:=zab b2
   have HI2:=zab (uh HIX w2)
   clear HP1 hB2 b2 HIX
   go_wp2_with fail
   refine (uh HI2).mono ?_
   rintro e w2' ⟨rfl,rfl⟩
   clear HI2
   clear HKP HQ2
   go_wp2
   go_ret2
   exact⟨rfl,uh HB2⟩
theorem zwi (v u:JV) (xs:List (List UInt8)) (t:List UInt8) (a:Option Addr) (g off cap:Nat) (w:World) (hv:GdT v) (hu:GdT u) (hl:(ct v).length<=100000) (hul:(ct u).length<=100000) (hts:∀ x∈xs++[t],x.length<=1048576) (hn:xs.length<=1048576) (hcap:xs.length+1<=cap) (hss:SS w a g off ((xs++[t]).map baT)) (l:JL) (i:Nat) (hg:za0 v xs=some (.arr l)) (hat:atA l t=some i) (hi:i<=l.toL.length) :
  Calls prog 93 #[.string (zac (ct v)),.slice a (xs.length+1) cap,.string (zac (ct u))] w fun e w'=>e = .returned (.tuple #[.string (zac (ct (zcT v xs (.arr (JL.ofL (l.toL.take i++u :: l.toL.drop i)))))),.bool true])/\Below w.heap.size w w':=by
 obtain⟨hs1,rfl,hct⟩:=SS.init hss
 have htt:t.length<=1048576:=hts t (by simp)
 have HGET:=zab (zbT v hv.ok hv.tw (by omega) (some ⟨g,off,none⟩) g off cap xs w hs1 (by omega) (fun x hx=>hts x (List.mem_append_left _ hx)))
 have HCT:Hid (∀ wx,Below w.heap.size w wx->wx.cell? ⟨g,off+xs.length,none⟩=some (.string (zac t))):=fun wx hx=>(hx.cell (p:=⟨g,off+xs.length,none⟩) (yJ _ _ hct)).trans hct
 have hsub:(xs.length:Int)+1 - 1=(xs.length:Int):=by omega
 have hlec:xs.length<=cap:=by omega
 have hltI:(xs.length:Int) < (xs.length:Int)+1:=by omega
 have hgh:=hv.get hg
 have hlh:=zcb hv hg
 have h0:=zd0 hgh.ok
 have h0I:(0:Int) < ((zac (ct (.arr l))).size:Int):=by omega
 rw[zbC hg] at HGET
 obtain⟨cb,hcb,c5,c6⟩:=zey hgh.ok h0
 have hc91:cb=91:=c5.2 rfl
 have f1:(((zac (ct (.arr l)))[0].toNat:Int) != 91)=false:=by rw[hcb,hc91]; rfl
 have f3:(((zac (ct (.arr l)))[0].toNat:Int) == 123)=false:=by rw[hcb,hc91]; rfl
 clear hcb c5 c6 hc91
 have hpe:(zae (.arr l)).length=l.toL.length:=by
  have:=congrArg List.length (zca l)
  simpa using this
 have hpl:=zbq hgh.ok (show (ct (.arr l)).length<=1000000 by omega)
 rw[hpe] at hpl
 have HPA:Hid (∀ wx,Calls prog 47 #[.string (zac (ct (.arr l)))] wx fun e w'=>∃ xa xc,e = .returned (.slice xa l.toL.length xc)/\Below wx.heap.size wx w'):=fun wx=>by
  refine (zch (.arr l) hgh.ok wx (by omega)).mono ?_
  rintro e w' ⟨r,rfl,p,b⟩
  obtain⟨xa,xc,rfl⟩:=PR.shape p
  rw[hpe]
  exact⟨xa,xc,rfl,b⟩
 have HIX:Hid (∀ wx,Calls prog 124 #[.string (zac t)] wx fun e w'=>e = .returned (.int .i64 (ziw t))/\wx=w'):=fun wx=>by
  have:=zel (zac t) wx (by rw[zaf]; exact htt)
  rwa [zad] at this
 have hput:za7 (.arr l) t u=some (.arr (JL.ofL (l.toL.take i++u :: l.toL.drop i))):=by
  simp only[za7]
  unfold atA at hat
  rw[hat]
  simp only
  rw[yg hi]
 have hrg:=zf0 hgh hu hput
 have hrl:=zhb hgh hput
 have hsl:=zci (u:=(.arr (JL.ofL (l.toL.take i++u :: l.toL.drop i)))) hv hg
 have HWI:Hid (∀ (wx:World),Calls prog 123 #[.string (zac (ct (.arr l))),.int .i64 (i:Int),.bool false,.bool true,.agg #[.string (zac t),.string (zac (ct u))]] wx fun e w'=>e = .returned (.string (zac (ct (.arr (JL.ofL (l.toL.take i++u :: l.toL.drop i))))))/\Below wx.heap.size wx w'):=fun wx=>by
  obtain⟨s1,s2,s3⟩:=zew hgh.ok hgh.tw (.inl rfl) (by omega) i false true (t,ct u) htt (by show (ct u).length<=_; omega)
  have:=zfd (.arr l) hgh.ok (by omega) i false true (t,ct u) wx (by omega) s1 s2 s3
  rw[zsE hi] at this
  exact this
 have HSET:Hid (∀ wx,Below w.heap.size w wx->Calls prog 96 #[.string (zac (ct v)),.slice (some ⟨g,off,none⟩) xs.length cap,.string (zac (ct (.arr (JL.ofL (l.toL.take i++u :: l.toL.drop i)))))] wx fun e w'=>e = .returned (.string (zac (ct (zcT v xs (.arr (JL.ofL (l.toL.take i++u :: l.toL.drop i)))))))/\Below wx.heap.size wx w'):=fun wx hx=>zex xs v (.arr (JL.ofL (l.toL.take i++u :: l.toL.drop i))) (.arr l) (some ⟨g,off,none⟩) g off cap wx hv hrg hg hl (by omega) (fun x hx=>hts x (List.mem_append_left _ hx)) (by omega) (by omega) (hs1.below hx)
 by_cases hd:t=[45]
 ·have hin:i=l.toL.length:=by unfold atA at hat; rw[yg hd] at hat; injection hat with hat; exact hat.symm
  have hyes:((zac t).toList == [45])=true:=by rw[ByteArray.toList_eq,zad,hd]; rfl
  have hzl:¬ (l.toL.length:Int) < 0:=by omega
  generalize zac (ct (zcT v xs (.arr (JL.ofL (l.toL.take i++u :: l.toL.drop i)))))=RR at *
  generalize zac (ct (.arr (JL.ofL (l.toL.take i++u :: l.toL.drop i))))=DD at *
  subst hin
  generalize ziw t=z at *
  clear hat hg hgh hlh hd hpe hput hrg hrl hsl hi
  clear hss hs1 hct hv hu hl hul hts htt hcap
  generalize zac (ct v)=sv at *
  generalize zac (ct u)=su at *
  generalize zac (ct (.arr l))=sh at *
  generalize zac t=st at *
  go_enter func93,ntmps93
  go_wp2_with fail
  refine (uh HGET).mono ?_
  rintro e w1 ⟨rfl,b1⟩
  have c1:=uh HCT w1 b1
  have HB1:=zab b1
  have kA:=yG w1 (.cells #[.string st,.string su] 99)
  have bA:=zaa b1 (zai w1 (.cells #[.string st,.string su] 99))
  have HKP:Hid (∀ wx,Below (w1.alloc (.cells #[.string st,.string su] 99)).heap.size (w1.alloc (.cells #[.string st,.string su] 99)) wx->wx.cell? ⟨w1.heap.size,0,none⟩=some (.string st)/\wx.cell? ⟨w1.heap.size,1,none⟩=some (.string su)):=fun wx hx=>by
   have k:=(hx.block w1.heap.size (yB.1 kA).1).trans kA
   exact⟨yF k 0,yF k 1⟩
  have HBA:=zab bA
  have HP1:=zab (uh HPA (w1.alloc (.cells #[.string st,.string su] 99)))
  clear HGET b1 kA bA HPA
  go_wp2_with fail
  generalize (w1.alloc (.cells #[.string st,.string su] 99))=wA at *
  refine (uh HP1).mono ?_
  rintro e w2 ⟨xa,xc,rfl,b2⟩
  have hB2:=zaa (uh HBA) b2
  have c2:=uh HCT w2 hB2
  have HB2:=zab hB2
  have HQ2:=zab b2
  have HI2:=zab (uh HIX w2)
  clear HP1 hB2 b2 HIX
  go_wp2_with fail
  refine (uh HI2).mono ?_
  rintro e w2' ⟨rfl,rfl⟩
  clear HI2
  have bD5:Below w.heap.size w w2.drew:=(uh HB2).drew
  have bP5:=(uh HQ2).drew
  obtain⟨y0,y1⟩:=uh HKP w2.drew bP5
  go_wp2_with fail
  go_region_law (first
   | (have hq:=b6'; go_simp; refine (uh HSET _ b6').mono ?_; rintro e w7 ⟨rfl,b7⟩)
   | (go_simp; refine (uh HWI _).mono ?_; rintro e w6 ⟨rfl,b6⟩; have b6':=zaa bD5 b6; have z6:=uh HKP w6 (zaa bP5 b6); have z0:=z6.1; have z1:=z6.2))
  all_goals
   have HBF:=zab (zaa b6' b7)
   clear b6 b6' b7 bD5 bP5 z6 z0 z1 y0 y1 HSET HWI HKP HCT
   go_wp2
   go_ret2
   exact⟨rfl,uh HBF⟩
 ·have hix:ziw t=(i:Int):=by unfold atA at hat; rw[yf hd] at hat; unfold ziw; rw[hat]
  have hne:((zac t).toList == [45])=false:=by
   rw[ByteArray.toList_eq,zad,yd]; exact hd
  have hzl:¬ (i:Int) < 0:=by omega
  have hzl2:¬ (l.toL.length:Int) < (i:Int):=by omega
  have hib:i<=1000000:=by omega
  rw[hix] at HIX
  generalize zac (ct (zcT v xs (.arr (JL.ofL (l.toL.take i++u :: l.toL.drop i)))))=RR at *
  generalize zac (ct (.arr (JL.ofL (l.toL.take i++u :: l.toL.drop i))))=DD at *
  clear hat hg hgh hlh hd hpe hput hrg hrl hsl hix
  clear hss hs1 hct hv hu hl hul hts htt hcap
  generalize zac (ct v)=sv at *
  generalize zac (ct u)=su at *
  generalize zac (ct (.arr l))=sh at *
  generalize zac t=st at *
  go_enter func93,ntmps93
  go_wp2_with fail
  refine (uh HGET).mono ?_
  rintro e w1 ⟨rfl,b1⟩
  have c1:=uh HCT w1 b1
  have HB1:=zab b1
  have kA:=yG w1 (.cells #[.string st,.string su] 99)
  have bA:=zaa b1 (zai w1 (.cells #[.string st,.string su] 99))
  have HKP:Hid (∀ wx,Below (w1.alloc (.cells #[.string st,.string su] 99)).heap.size (w1.alloc (.cells #[.string st,.string su] 99)) wx->wx.cell? ⟨w1.heap.size,0,none⟩=some (.string st)/\wx.cell? ⟨w1.heap.size,1,none⟩=some (.string su)):=fun wx hx=>by
   have k:=(hx.block w1.heap.size (yB.1 kA).1).trans kA
   exact⟨yF k 0,yF k 1⟩
  have HBA:=zab bA
  have HP1:=zab (uh HPA (w1.alloc (.cells #[.string st,.string su] 99)))
  clear HGET b1 kA bA HPA
  go_wp2_with fail
  generalize (w1.alloc (.cells #[.string st,.string su] 99))=wA at *
  refine (uh HP1).mono ?_
  rintro e w2 ⟨xa,xc,rfl,b2⟩
  have hB2:=zaa (uh HBA) b2
  have c2:=uh HCT w2 hB2
  have HB2:=zab hB2
  have HQ2:=zab b2
  have HI2:=zab (uh HIX w2)
  clear HP1 hB2 b2 HIX
  go_wp2_with fail
  refine (uh HI2).mono ?_
  rintro e w2' ⟨rfl,rfl⟩
  clear HI2
  have bD5:Below w.heap.size w w2.drew:=(uh HB2).drew
  have bP5:=(uh HQ2).drew
  obtain⟨y0,y1⟩:=uh HKP w2.drew bP5
  go_wp2_with fail
  go_region_law (first
   | (have hq:=b6'; go_simp; refine (uh HSET _ b6').mono ?_; rintro e w7 ⟨rfl,b7⟩)
   | (go_simp; refine (uh HWI _).mono ?_; rintro e w6 ⟨rfl,b6⟩; have b6':=zaa bD5 b6; have z6:=uh HKP w6 (zaa bP5 b6); have z0:=z6.1; have z1:=z6.2))
  all_goals
   have HBF:=zab (zaa b6' b7)
   clear b6 b6' b7 bD5 bP5 z6 z0 z1 y0 y1 HSET HWI HKP HCT
   go_wp2
   go_ret2
   exact⟨rfl,uh HBF⟩
theorem zsI (v u:JV) (xs:List (List UInt8)) (t:List UInt8) (a:Option Addr) (g off cap:Nat) (w:World) (hv:GdT v) (hu:GdT u) (hl:(ct v).length<=100000) (hul:(ct u).length<=100000) (hts:∀ x∈xs++[t],x.length<=1048576) (hn:xs.length<=1048576) (hcap:xs.length+1<=cap) (hss:SS w a g off ((xs++[t]).map baT)) :
  Calls prog 93 #[.string (zac (ct v)),.slice a (xs.length+1) cap,.string (zac (ct u))] w fun e w'=>e = .returned (zsG (zet v (xs++[t]) u))/\Below w.heap.size w w':=by
 have hpv:zet v (xs++[t]) u=zd2 (fun h=>za7 h t u) v xs:=by
  unfold zet
  rw[yf (by simp),List.dropLast_concat]
  congr 1
  funext h
  unfold zcP
  simp
 rw[hpv]
 unfold zd2
 cases hg:za0 v xs with
 | none=>exact zsH v u xs t a g off cap w hv hl hts hn hcap hss hg
 | some h=>
  show Calls _ _ _ _ fun e w'=>e = .returned (zsG ((za7 h t u).map (zcT v xs)))/\_
  cases h with
  | arr l=>
   cases hat:atA l t with
   | none=>
    have e:za7 (.arr l) t u=none:=by
     simp only[za7]
     unfold atA at hat
     rw[hat]
    rw[e]
    exact zqh v u xs t a g off cap w hv hl hts hn hcap hss l hg (fun i hi=>by rw[hat] at hi; cases hi)
   | some i=>
    by_cases hi:i<=l.toL.length
    ·have e:za7 (.arr l) t u=some (.arr (JL.ofL (l.toL.take i++u :: l.toL.drop i))):=by
      simp only[za7]
      unfold atA at hat
      rw[hat]
      simp only
      rw[yg hi]
     rw[e]
     exact zwi v u xs t a g off cap w hv hu hl hul hts hn hcap hss l i hg hat hi
    ·have e:za7 (.arr l) t u=none:=by
      simp only[za7]
      unfold atA at hat
      rw[hat]
      simp only
      rw[yf hi]
     rw[e]
     exact zqh v u xs t a g off cap w hv hl hts hn hcap hss l hg (fun j hj=>by rw[hat] at hj; injection hj with hj; omega)
  | obj m=>
   cases hval:Lib.validD t with
   | false=>
    have e:za7 (.obj m) t u=none:=by simp only[za7]; rw[yf (by rw[hval]; simp)]
    rw[e]
    exact zu6 v u xs t a g off cap w hv hl hts hn hcap hss m hg hval
   | true=>
    cases hch:zal (.obj m) t with
    | some c=>
     have e:za7 (.obj m) t u=some (zby (.obj m) t u):=by simp only[za7]; rw[yg hval,hch]; rfl
     rw[e]
     exact zu7 v u xs t a g off cap w hv hu hl hul hts hn hcap hss m c hg hval hch
    | none=>
     have e:za7 (.obj m) t u=some (.obj (JM.ofL (m.toL++[(t,u)]))):=by simp only[za7]; rw[yg hval,hch]; rfl
     rw[e]
     exact zu8 v u xs t a g off cap w hv hu hl hul hts hn hcap hss m hg hval hch
  | nul=>exact zfg v u xs t a g off cap w hv hl hts hn hcap hss _ hg (by decide) (by decide)
  | tt=>exact zfg v u xs t a g off cap w hv hl hts hn hcap hss _ hg (by decide) (by decide)
  | ff=>exact zfg v u xs t a g off cap w hv hl hts hn hcap hss _ hg (by decide) (by decide)
  | num x=>exact zfg v u xs t a g off cap w hv hl hts hn hcap hss _ hg (by simp[kd]) (by simp[kd])
  | str x=>exact zfg v u xs t a g off cap w hv hl hts hn hcap hss _ hg (by simp[kd]) (by simp[kd])
theorem zhd {α:Type} [DecidableEq α] : ∀ (a b:List α),a.Nodup->(∀ x∈a,x∈b)->b.length<=a.length->a.Perm b
 | [],b,_,_,h=>by
  have:b=[]:=List.length_eq_zero_iff.1 (by simpa using h)
  rw[this]
 | x :: r,b,hn,hs,h=>by
  have hx:=hs x yp
  rw[List.nodup_cons] at hn
  have hl:(b.erase x).length+1=b.length:=by
   rw[List.length_erase_of_mem hx]
   have:=List.length_pos_of_mem hx
   omega
  have hp:=zhd r (b.erase x) hn.2 (fun y hy=>(List.mem_erase_of_ne (by intro e; subst e; exact hn.1 hy)).2 (hs y (yv _ hy))) (by rw[yn] at h; omega)
  exact (hp.cons x).trans (List.perm_cons_erase hx).symm
theorem zoK {α β:Type} {l:List (α×β)} (h:(l.map (·.1)).Nodup) : l.Nodup:=by
 unfold List.Nodup at h ⊢
 rw[List.pairwise_map] at h
 exact h.imp fun hab e=>hab (by rw[e])
theorem zd3 {α β:Type} : ∀ {l:List (α×β)} {p q:α×β},(l.map (·.1)).Nodup->p∈l->q∈l->p.1=q.1->p=q
 | [],_,_,_,h,_,_=>by cases h
 | x :: r,p,q,hn,hp,hq,e=>by
  rw[yi,List.nodup_cons] at hn
  rcases List.mem_cons.1 hp with e1 | hp
  ·rcases List.mem_cons.1 hq with e2 | hq
   ·rw[e1,e2]
   ·exact absurd (yO.2 ⟨q,hq,by rw[← e,e1]⟩) hn.1
  ·rcases List.mem_cons.1 hq with e2 | hq
   ·exact absurd (yO.2 ⟨p,hp,by rw[e,e2]⟩) hn.1
   ·exact zd3 hn.2 hp hq e
theorem zqi {l m:JL} (hl:GdT (.arr l)) (hm:GdT (.arr m)) : ct (.arr l)=ct (.arr m)↔l.toL.map ct=m.toL.map ct:=by
 rw[← zaG,← zaG]
 constructor
 ·intro h
  have h1:=hl.ok
  have h2:=hm.ok
  rw[okV] at h1 h2
  exact zxz h1 h2 h
 ·intro h; rw[ct,ct,h]
theorem zqj {k m:JM} (hk:GdT (.obj k)) (hm:GdT (.obj m)) : ct (.obj k)=ct (.obj m)↔k.toL.length=m.toL.length/\∀ q∈k.toL,∃ u,(q.1,u)∈m.toL/\ct q.2=ct u:=by
 have gk:=(zbi k).1 hk
 constructor
 ·intro h
  have h1:=hk.ok
  have h2:=hm.ok
  rw[okV] at h1 h2
  have hp:(ctM k).Perm (ctM m):=(zap _).symm.trans ((zxA h1 h2 h) ▸ zap _)
  rw[zaK,zaK] at hp
  refine⟨by simpa using hp.length_eq,fun q hq=>?_⟩
  obtain⟨q',hq',e⟩:=yO.1 (hp.subset (yO.2 ⟨q,hq,rfl⟩))
  injection e with e1 e2
  exact⟨q'.2,by rw[← e1]; exact hq',e2.symm⟩
 ·rintro⟨hl,hs⟩
  have hn:((ctM k).map (·.1)).Nodup:=by rw[zaK,List.map_map]; exact gk.1
  have hp:(ctM k).Perm (ctM m):=zhd _ _ (zoK hn) (fun x hx=>by
   rw[zaK] at hx
   obtain⟨q,hq,rfl⟩:=yO.1 hx
   obtain⟨u,hu,e⟩:=hs q hq
   rw[zaK]
   exact yO.2 ⟨(q.1,u),hu,by rw[e]⟩) (by rw[zaK,zaK,yl,yl]; omega)
  rw[ct,ct,zeu hp hn]
theorem zqk {l:JL} {u:JV} (h:u∈l.toL) : (ct u).length<=(ct (.arr l)).length:=by
 have hc:ct (.arr l)=mkA (ctL l):=by rw[ct]
 rw[hc,zaG]
 have hj:(ct u).length+1<=((l.toL.map ct).map fun t=>t.length+1).sum:=by
  have:∀ (L:List JV),u∈L->(ct u).length+1<=((L.map ct).map fun t=>t.length+1).sum:=by
   intro L
   induction L with
   | nil=>intro h; cases h
   | cons x r ih=>
    intro h
    rw[yi,yi,yL]
    rcases List.mem_cons.1 h with rfl | h
    ·omega
    ·have:=ih h; omega
  exact this _ h
 have hne:l.toL.map ct≠[]:=by intro e; rw[List.map_eq_nil_iff] at e; rw[e] at h; cases h
 have:=zkb _ hne
 show _<=(91 :: (joinC (l.toL.map ct)++[93])).length
 simp only[yn,yh,yD]
 omega
end Go.Proofs.YtekpghcckdjnhaaGreatDoor
