import Derived.Test.YtekpghcckdjnhaaGreatDoorBa8
import Derived.Test.YtekpghcckdjnhaaGreatDoorBa12
import Derived.Test.YtekpghcckdjnhaaGreatDoorBa18
set_option maxRecDepth 100000
set_option maxHeartbeats 8000000
namespace Go.Proofs.YtekpghcckdjnhaaGreatDoor
open Go.RowKit Go.Proofs.Tryz
theorem zgC {ts:List (List UInt8)} {j:Nat} (h:j < ts.length) : (ts.map baT).getD j ByteArray.empty=baT (ts.getD j []):=by simp[h]
def zl9 (ps:List za3) (key:List UInt8) (e:Ending) : Prop:=(e = .returned (.int .i64 (-1))/\∀ j (hj:j < ps.length),ps[j].1≠key)∨∃ (j:Nat) (hj:j < ps.length),e = .returned (.int .i64 (j:Int))/\ps[j].1=key
theorem zl9.no {ps:List za3} {key:List UInt8} {e:Ending} (h:e = .returned (.int .i64 (-1))) (k:∀ j (hj:j < ps.length),ps[j].1≠key) : zl9 ps key e:=Or.inl ⟨h,k⟩
theorem zl9.yes {ps:List za3} {key:List UInt8} {e:Ending} {j:Nat} (hj:j < ps.length) (h:e = .returned (.int .i64 (j:Int))) (k:ps[j].1=key) : zl9 ps key e:=Or.inr ⟨j,hj,h,k⟩
def zcQ (v:JV) (t:List UInt8) (e:Ending) : Prop:=(e = .returned (.int .i64 (-1))/\zal v t=none)∨∃ (j:Nat) (hj:j < (zae v).length) (u:JV),e = .returned (.int .i64 (j:Int))/\zal v t=some u/\(zae v)[j].2=ct u/\(zae v)[j].1=t
theorem zcQ.no {v:JV} {t:List UInt8} {e:Ending} (h:e = .returned (.int .i64 (-1))) (k:zal v t=none) : zcQ v t e:=Or.inl ⟨h,k⟩
theorem zcQ.yes {v u:JV} {t:List UInt8} {e:Ending} {j:Nat} (hj:j < (zae v).length) (h:e = .returned (.int .i64 (j:Int))) (k:zal v t=some u/\(zae v)[j].2=ct u/\(zae v)[j].1=t) : zcQ v t e:=Or.inr ⟨j,hj,u,h,k.1,k.2.1,k.2.2⟩
theorem zg4 (B:Nat) (v:Value) (ps:List za3) (key:List UInt8) (w:World) (h:PR w B v ps) (hn:ps.length<=40000000) :
  Calls prog 91 #[v,.string (zac key)] w fun e w'=>w=w'/\zl9 ps key e:=by
 obtain⟨x,len,cap,rfl,hlen⟩ : ∃ x len cap,v = .slice x len cap/\len=ps.length:=by
  rcases h.2 with ⟨hv,h0⟩ | ⟨g,cap,cur,hv,_⟩
  ·exact⟨_,_,_,hv,h0.symm⟩
  ·exact⟨_,_,_,hv,rfl⟩
 subst hlen
 have HP:=zab h
 clear h
 go_enter func91,ntmps91
 go_wp2_with fail
 go_loopw [5] (fun k wr=>w=wr/\∃ j:Nat,k = .int .i64 (j:Int)/\j<=ps.length/\∀ i (hi:i < ps.length),i < j->ps[i].1≠key) (fun k _=>ps.length - (intOf k).toNat)
 case atStart=>exact⟨rfl,0,rfl,yt _,fun i _ hi=>by omega⟩
 case round=>
  obtain⟨rfl,j,rfl,hj,hno⟩:=hrel
  have HNO:=zab hno
  clear hno
  by_cases hin:j < ps.length
  ·have t1:((j:Int) < (ps.length:Int))=True:=eq_true (by omega)
   obtain⟨g,cap',he,hB,hgl,c0,c1⟩:=(uh HP).cells j hin
   injection he with he1 he2 he3
   subst he1; subst he3
   have heq:=zi0 ps[j].1 key
   by_cases hk:ps[j].1=key
   ·have t2:(ps[j].1 == key)=true:=by rw[yC]; exact hk
    have HK:=zab hk
    rw[t2] at heq
    clear hk t2
    go_wp2
    go_ret
    exact⟨rfl,zl9.yes hin rfl (uh HK)⟩
   ·have t2:(ps[j].1 == key)=false:=by rw[yd]; exact hk
    have HX:Hid (∀ i (hi:i < ps.length),i < j+1->ps[i].1≠key):=fun i hi hij=>by
     by_cases e:i=j
     ·subst e; exact hk
     ·exact uh HNO i hi (by omega)
    rw[t2] at heq
    clear hk t2
    go_wp2
    go_roundw
    case rel=>exact⟨trivial,j+1,by go_num,by omega,uh HX⟩
    case measure=>simp[intOf]; omega
  ·have t1:((j:Int) < (ps.length:Int))=False:=yQ (by omega)
   go_wp2
   go_ret
   exact⟨rfl,zl9.no rfl (fun i hi=>uh HNO i hi (by omega))⟩
theorem zch (v:JV) (hok:okV v) (w:World) (hl:(ct v).length<=1000000) :
  Calls prog 47 #[.string (zac (ct v))] w fun e w'=>∃ r,e = .returned r/\PR w' w.heap.size r (zae v)/\Below w.heap.size w w':=by
 have leaf:∀ (c:UInt8) (r:List UInt8),ct v=c :: r->c.toNat≠91->c.toNat≠123->zae v=[]->Calls prog 47 #[.string (zac (ct v))] w fun e w'=>∃ r,e = .returned r/\PR w' w.heap.size r (zae v)/\Below w.heap.size w w':=fun c r hc h1 h2 hp=>by
  rw[hp,hc]
  obtain⟨a,b⟩:=zb0 (c:=c) (r:=r)
  exact zi7 _ w a (by rw[b]; exact h1) (by rw[b]; exact h2)
 cases v with
 | arr l=>rw[okV] at hok; exact zlI l hok w (by rw[zaf]; exact hl)
 | obj m=>rw[okV] at hok; exact zlJ m hok w (by rw[zaf]; exact hl)
 | nul=>exact leaf 110 _ rfl (by decide) (by decide) rfl
 | tt=>exact leaf 116 _ rfl (by decide) (by decide) rfl
 | ff=>exact leaf 102 _ rfl (by decide) (by decide) rfl
 | num l=>
  have hp:=zdn hok
  cases l with
  | nil=>exact absurd rfl hp.1
  | cons c r=>
   have:=(hp.2 c yp).1
   exact leaf c r rfl this.2.1 this.2.2.1 rfl
 | str l=>exact leaf 34 (qs l++[34]) rfl (by decide) (by decide) rfl
theorem zbq {v:JV} (hok:okV v) (hl:(ct v).length<=1000000) : (zae v).length<=1000000:=by
 cases v with
 | arr l=>
  show (ze7 0 (ctL l)).length<=_
  rw[zcA]
  have:(zac (ct (.arr l))).data.toList=91 :: (joinC (ctL l)++[93]):=by rw[zad]; rfl
  have:=zr2 this
  rw[zaf] at this
  omega
 | obj m=>
  show (zaq (ctM m)).length<=_
  have:(zac (ct (.obj m))).data.toList=123 :: (joinC ((zaq (ctM m)).map zav)++[125]):=by rw[zad]; rfl
  have:=zr2 this
  rw[zaf,yl] at this
  omega
 | nul=>simp[zae]
 | tt=>simp[zae]
 | ff=>simp[zae]
 | num l=>simp[zae]
 | str l=>simp[zae]
theorem zfX (v:JV) (hok:okV v) (htw:twV v=false) (t:List UInt8) (ht:t.length<=1048576) (w:World) (hl:(ct v).length<=1000000) :
  Calls prog 121 #[.string (zac (ct v)),.string (zac t)] w fun e w'=>Below w.heap.size w w'/\zcQ v t e:=by
 have HP:Hid (∀ w,Calls prog 47 #[.string (zac (ct v))] w fun e w'=>∃ r,e = .returned r/\PR w' w.heap.size r (zae v)/\Below w.heap.size w w'):=fun w=>zch v hok w hl
 have HI:Hid (∀ w,Calls prog 124 #[.string (zac t)] w fun e w'=>e = .returned (.int .i64 (ziw t))/\w=w'):=fun w=>by
  have:=zel (zac t) w (by rw[zaf]; exact ht)
  rwa [zad] at this
 have hpl:=zbq hok hl
 have hne:=ztE v hok
 have h0:0 < (zac (ct v)).size:=by rw[zaf]; cases h:ct v with
  | nil=>exact absurd h hne
  | cons _ _=>simp
 have hI:(0:Int) < ((zac (ct v)).size:Int):=by omega
 have hfirst:(zac (ct v))[0].toNat=91↔∃ l,v = .arr l:=by
  rw[← zas _ 0 h0]
  constructor
  ·intro h
   cases v with
   | arr l=>exact⟨l,rfl⟩
   | obj m=>exact absurd h (by rw[show ct (.obj m)=123 :: (joinC ((zaq (ctM m)).map zav)++[125]) from rfl,(zb0 (c:=123) (r:=joinC ((zaq (ctM m)).map zav)++[125])).2]; decide)
   | nul=>exact absurd h (by decide)
   | tt=>exact absurd h (by decide)
   | ff=>exact absurd h (by decide)
   | num l=>
    have hp:=zdn hok
    cases l with
    | nil=>exact absurd rfl hp.1
    | cons c r=>
     have h2:bt (zac (c :: r)) 0=91:=h
     rw[(zb0 (c:=c) (r:=r)).2] at h2
     exact absurd h2 (hp.2 c yp).1.2.1
   | str l=>exact absurd h (by rw[show ct (.str l)=34 :: (qs l++[34]) from rfl,(zb0 (c:=34) (r:=qs l++[34])).2]; decide)
  ·rintro⟨l,rfl⟩
   exact (zb0 (c:=91) (r:=joinC (ctL l)++[93])).2
 have HFO:Hid (((∃ l,v = .arr l)->(zgh t).isSome=true)->∀ {j:Nat} (hj:j < (zae v).length),(zae v)[j].1=t->∃ u,zal v t=some u/\(zae v)[j].2=ct u):=fun hi {j} hj hk=>zdO hok htw hi hj hk
 have HMI:Hid ((∀ j (hj:j < (zae v).length),(zae v)[j].1≠t)->zal v t=none):=fun h=>zcX h
 have HNO:Hid ((∃ l,v = .arr l)->zgh t=none->zal v t=none):=fun ⟨l,e⟩ h=>by subst e; rw[zay,h]; rfl
 have hrest:((∃ l,v = .arr l)->(zgh t).isSome=true)->∀ w1 (r:Value),PR w1 w.heap.size r (zae v)->Calls prog 91 #[r,.string (zac t)] w1 fun e w'=>w1=w'/\zcQ v t e:=fun hi w1 r hr=>by
  refine (zg4 _ r (zae v) t w1 hr (by omega)).mono ?_
  rintro e w' ⟨rfl,⟨rfl,h⟩ | ⟨j,hj,rfl,hk⟩⟩
  ·exact⟨rfl,zcQ.no rfl (uh HMI h)⟩
  ·obtain⟨u,h1,h2⟩:=uh HFO hi hj hk
   exact⟨rfl,zcQ.yes hj rfl ⟨h1,h2,hk⟩⟩
 have HREST:=zab hrest
 clear hrest HFO HMI
 by_cases ha:∃ l,v = .arr l
 ·have f1:(((zac (ct v))[0].toNat:Int) == 91)=true:=by rw[yC]; have:=hfirst.2 ha; omega
  cases hx:zgh t with
  | none=>
   have HN:=zab (uh HNO ha hx)
   have ez:ziw t = -1:=by unfold ziw; rw[hx]
   rw[ez] at HI
   clear hfirst HNO HREST ha hx ez HP hne hok htw
   generalize zac (ct v)=T at *
   go_enter func121,ntmps121
   go_wp2_with fail
   refine (uh HI _).mono ?_
   rintro e w1 ⟨rfl,rfl⟩
   clear HI
   go_wp2
   go_ret
   exact⟨yH _ _,zcQ.no rfl (uh HN)⟩
  | some i=>
   have HR:=zab (uh HREST (fun _=>by rw[hx]; rfl))
   have ez:ziw t=(i:Int):=by unfold ziw; rw[hx]
   rw[ez] at HI
   have ti:¬ (i:Int) < 0:=by omega
   clear hfirst HNO HREST ha hx ez hne hok htw
   generalize zac (ct v)=T at *
   go_enter func121,ntmps121
   go_wp2_with fail
   refine (uh HI _).mono ?_
   rintro e w1 ⟨rfl,rfl⟩
   clear HI
   go_wp2_with fail
   refine (uh HP _).mono ?_
   rintro e w1 ⟨r,rfl,p1,b1⟩
   have HR1:=zab (uh HR w1 r p1)
   clear HP HR p1
   go_wp2_with fail
   refine (uh HR1).mono ?_
   rintro e w2 ⟨rfl,⟨rfl,h⟩ | ⟨j,hj,u,rfl,h1,h2⟩⟩
   ·clear HR1
    have HH:=zab h
    clear h
    go_wp2
    go_ret
    exact⟨b1,zcQ.no rfl (uh HH)⟩
   ·clear HR1
    have HH:=zab (⟨h1,h2⟩ : zal v t=some u/\(zae v)[j].2=ct u/\(zae v)[j].1=t)
    clear h1 h2
    go_wp2
    go_ret
    exact⟨b1,zcQ.yes hj rfl (uh HH)⟩
 ·have f1:(((zac (ct v))[0].toNat:Int) == 91)=false:=by rw[yd]; intro e; exact ha (hfirst.1 (by omega))
  have HR:=zab (uh HREST (fun h=>absurd h ha))
  clear hfirst HNO HREST ha hne hok htw HI
  generalize zac (ct v)=T at *
  go_enter func121,ntmps121
  go_wp2_with fail
  refine (uh HP _).mono ?_
  rintro e w1 ⟨r,rfl,p1,b1⟩
  have HR1:=zab (uh HR w1 r p1)
  clear HP HR p1
  go_wp2_with fail
  refine (uh HR1).mono ?_
  rintro e w2 ⟨rfl,⟨rfl,h⟩ | ⟨j,hj,u,rfl,h1,h2⟩⟩
  ·clear HR1
   have HH:=zab h
   clear h
   go_wp2
   go_ret
   exact⟨b1,zcQ.no rfl (uh HH)⟩
  ·clear HR1
   have HH:=zab (⟨h1,h2⟩ : zal v t=some u/\(zae v)[j].2=ct u/\(zae v)[j].1=t)
   clear h1 h2
   go_wp2
   go_ret
   exact⟨b1,zcQ.yes hj rfl (uh HH)⟩
def zpW (v:JV) (ts:List (List UInt8)) : Value:=match za0 v ts with
 | some u=>.tuple #[.string (zac (ct u)),.bool true]
 | none=>.tuple #[.string ⟨#[]⟩,.bool false]
theorem zbT (v:JV) (hok:okV v) (htw:twV v=false) (hl:(ct v).length<=1000000) (a:Option Addr) (g off cap:Nat) (ts:List (List UInt8)) (w:World) (hs:SS w a g off (ts.map baT)) (hn:ts.length<=1048577) (ht:∀ t∈ts,t.length<=1048576) :
  Calls prog 92 #[.string (zac (ct v)),.slice a ts.length cap] w fun e w'=>e = .returned (zpW v ts)/\Below w.heap.size w w':=by
 have hadr:=hs.ad
 have HSS:=zab hs
 rw[yl] at hadr
 have HCH:Hid (∀ (u:JV) (k:Nat) (hk:k < ts.length) (w:World),okV u->twV u=false->(ct u).length<=1000000->Calls prog 121 #[.string (zac (ct u)),.string (zac ts[k])] w fun e w'=>Below w.heap.size w w'/\zcQ u ts[k] e):=fun u k hk w o1 o2 o3=>zfX u o1 o2 ts[k] (ht _ (yr hk)) w o3
 have HPA:Hid (∀ (u:JV) (w:World),okV u->(ct u).length<=1000000->Calls prog 47 #[.string (zac (ct u))] w fun e w'=>∃ r,e = .returned r/\PR w' w.heap.size r (zae u)/\Below w.heap.size w w'):=fun u w o1 o2=>zch u o1 w o2
 clear hs ht
 go_enter func92,ntmps92
 go_wp2
 go_loopw [0,6] (fun sv iv wr=>∃ (k:Nat) (u:JV),k<=ts.length/\iv = .int .i64 (k:Int)/\sv = .string (zac (ct u))/\za0 v (ts.take k)=some u/\okV u/\twV u=false/\(ct u).length<=1000000/\Below w.heap.size w wr) (fun _ iv _=>ts.length - (intOf iv).toNat)
 case atStart=>exact⟨0,v,yt _,rfl,rfl,rfl,hok,htw,hl,yH _ _⟩
 case round=>
  obtain⟨k,u,hk,rfl,rfl,hg,ho,htu,hlu,hb⟩:=hrel
  have HG:=zab hg
  have HB:=zab hb
  by_cases hlt:k < ts.length
  ·have hltI:(k:Int) < (ts.length:Int):=by omega
   obtain rfl:=hadr (by omega)
   have hck:=((uh HSS).below hb).cell k (by rw[yl]; exact hlt)
   rw[zgC hlt] at hck
   have hgd:baT (ts.getD k [])=zac ts[k]:=by simp[List.getD,hlt,baT,zac]
   rw[hgd] at hck
   have HC:=zab (uh HCH u k hlt wr ho htu hlu)
   have HST:Hid (zal u ts[k]=none->zpW v ts = .tuple #[.string ⟨#[]⟩,.bool false]):=fun hc=>by unfold zpW; rw[zlv hlt hg hc]
   have HNX:Hid (∀ u',zal u ts[k]=some u'->za0 v (ts.take (k+1))=some u'/\okV u'/\twV u'=false/\(ct u').length<=1000000):=fun u' hc=>by
    obtain⟨c1,c2,c3,_⟩:=zbG hc ho htu
    exact⟨by rw[zh2 hlt hg]; exact hc,c1,c2,by omega⟩
   have HPU:Hid (∀ w,Calls prog 47 #[.string (zac (ct u))] w fun e w'=>∃ r,e = .returned r/\PR w' w.heap.size r (zae u)/\Below w.heap.size w w'):=fun w=>uh HPA u w ho hlu
   generalize zac (ct u)=su at *
   generalize zac ts[k]=st at *
   clear hg hb HG HCH HPA hgd
   go_wp2_with fail
   refine (uh HC).mono ?_
   rintro e w1 ⟨b1,⟨rfl,hcn⟩ | ⟨j,hj,u',rfl,hcs,hpt,-⟩⟩
   ·have HV:=zab (uh HST hcn)
    have B1:=zaa (uh HB) b1
    clear HC HST HNX HPU hck hcn
    go_wp2
    go_ret2
    exact⟨by rw[uh HV]; rfl,B1⟩
   ·obtain⟨n1,n2,n3,n4⟩:=uh HNX u' hcs
    have B1:=zab (zaa (uh HB) b1)
    have HN:=zab (⟨n1,n2,n3,n4⟩ : za0 v (ts.take (k+1))=some u'/\okV u'/\twV u'=false/\(ct u').length<=1000000)
    have tj:¬ (j:Int) < 0:=by omega
    clear HC HST HNX hck hcs n1 n2 n3 n4 b1
    go_wp2_with fail
    refine (uh HPU _).mono ?_
    rintro e w2 ⟨r2,rfl,p2,b2⟩
    obtain⟨g2,cap2,he,_,_,c0,c1⟩:=p2.cells j hj
    subst he
    rw[hpt] at c1
    have hjI:(j:Int) < ((zae u).length:Int):=by omega
    have B2:=zab (zaa (uh B1) b2)
    clear HPU p2 b2 B1 c0 hpt
    generalize (zae u).length=pl at *
    go_wp2
    go_roundw
    case rel=>exact⟨k+1,u',by omega,by go_num,rfl,(uh HN).1,(uh HN).2.1,(uh HN).2.2.1,(uh HN).2.2.2,uh B2⟩
    case measure=>simp[intOf]; omega
  ·have e:ts.take k=ts:=yq (by omega)
   rw[e] at HG
   have HV:Hid (zpW v ts = .tuple #[.string (zac (ct u)),.bool true]):=by show _=_; unfold zpW; rw[uh HG]
   generalize zac (ct u)=su at *
   clear hg hb HG HCH HPA e
   go_wp2
   go_ret2
   exact⟨by rw[uh HV]; rfl,uh HB⟩
theorem zst {ps:List (List UInt8)} : ∀ {ts:List (List UInt8)},ps.mapM zau=some ts->∀ t∈ts,∃ p∈ps,zau p=some t:=by
 induction ps with
 | nil=>intro ts h t ht; simp at h; subst h; simp at ht
 | cons p ps ih=>
  intro ts h t ht
  rw[zeq] at h
  cases hu:zau p with
  | none=>rw[hu] at h; simp at h
  | some q=>
   cases hm:List.mapM zau ps with
   | none=>rw[hu,hm] at h; simp at h
   | some us=>
    rw[hu,hm] at h
    simp at h
    subst h
    rcases List.mem_cons.1 ht with rfl | ht
    ·exact⟨p,yp,hu⟩
    ·obtain⟨p',h1,h2⟩:=ih hm t ht
     exact⟨p',yv _ h1,h2⟩
theorem zpX:∀ (n:Nat) (p t:List UInt8),p.length<=n->zau p=some t->t.length<=p.length:=by
 intro n
 induction n with
 | zero=>intro p t hl h; obtain rfl:=yN (Nat.le_zero.1 hl); simp[zau] at h; subst h; simp
 | succ n ih=>
  intro p t hl h
  cases p with
  | nil=>simp[zau] at h; subst h; simp
  | cons c r=>
   have fin:∀ (r':List UInt8) (x:List UInt8),r'.length<=r.length->x.length=1->(zau r').map (x++·)=some t->t.length<=(c :: r).length:=fun r' x hr hx hm=>by
    cases hu:zau r' with
    | none=>rw[hu] at hm; simp at hm
    | some u=>
     rw[hu] at hm
     simp at hm
     have:=ih r' u (by simp at hl; omega) hu
     rw[← hm]; simp; omega
   by_cases h1:(c.toNat:Int)=126
   ·cases r with
    | nil=>rw[zgR h1] at h; cases h
    | cons d r=>
     by_cases h2:(d.toNat:Int)=48
     ·rw[zlX r h1 h2] at h; exact fin r [126] (by simp) rfl h
     ·by_cases h3:(d.toNat:Int)=49
      ·rw[zlY r h1 h3] at h; exact fin r [47] (by simp) rfl h
      ·rw[zgS r h1 h2 h3] at h; cases h
   ·rw[zgQ r h1] at h; exact fin r [c] (ye _) rfl h
theorem zg5 {l:List UInt8} {ts:List (List UInt8)} (h:zar l=some ts) : ∀ t∈ts,t.length<=l.length:=by
 intro t ht
 cases l with
 | nil=>simp[zar] at h; subst h; simp at ht
 | cons c r=>
  rw[zar] at h
  split at h
  ·unfold ziA at h
   obtain⟨p,hp,hu⟩:=zst h t ht
   have h1:=zpX _ p t (ye _) hu
   have h2:=ze1 r p hp
   simp; omega
  ·cases h
def zbx (ps:List za3) (p:Nat) (dr pu:Bool) (q:za3) (i:Nat) : List za3:=
 (if i=p/\pu=true then [q] else [])++(if h:i < ps.length then (if i≠p∨dr=false then [ps[i]] else []) else [])
def zb4 (ps:List za3) (p:Nat) (dr pu:Bool) (q:za3) (k:Nat) : List za3:=(List.range k).flatMap (zbx ps p dr pu q)
theorem zaR (ps:List za3) (p:Nat) (dr pu:Bool) (q:za3) (k:Nat) : zb4 ps p dr pu q (k+1)=zb4 ps p dr pu q k++zbx ps p dr pu q k:=by
 unfold zb4; rw[List.range_succ,List.flatMap_append,List.flatMap_singleton]
theorem zsu (ps:List za3) (p:Nat) (dr pu:Bool) (q:za3) (i:Nat) : (zbx ps p dr pu q i).length<=2:=by
 unfold zbx
 rw[yh]
 repeat' split
 all_goals simp
theorem zma (ps:List za3) (p:Nat) (dr pu:Bool) (q:za3) : ∀ k,(zb4 ps p dr pu q k).length<=2*k
 | 0=>by simp[zb4]
 | k+1=>by
  rw[zaR,yh]
  have:=zma ps p dr pu q k
  have:=zsu ps p dr pu q k
  omega
theorem zd0 {v:JV} (h:okV v) : 0 < (zac (ct v)).size:=by
 obtain⟨c,r,e,_⟩:=zlB h
 rw[zaf,e]
 simp
def mkV (v:JV) (ps:List za3) : List UInt8:=if kd v=5 then mkA (ps.map (·.2)) else mkO (zaq ps)
theorem zsv {v:JV} (h:okV v) (h0:0 < (zac (ct v)).size) : ((((zac (ct v))[0]).toNat:Int) == 91)=(kd v == 5):=by
 obtain⟨c,r,e,f⟩:=zlB h
 have hb:((zac (ct v))[0]).toNat=c.toNat:=by
  rw[← zas _ 0 h0,e]
  exact (zb0 (c:=c) (r:=r)).2
 rw[hb,← f]
 unfold fb
 by_cases h1:c.toNat=91
 ·rw[h1]; rfl
 ·have a1:((c.toNat:Int) == 91)=false:=by rw[yd]; omega
  rw[a1]
  symm
  rw[yd]
  repeat (first | (split; omega) | split)
  all_goals omega
theorem zfd (v:JV) (hok:okV v) (hl:(ct v).length<=1000000) (p:Nat) (dr pu:Bool) (q:za3) (w:World) (hp:p<=1000000)
  (hA:zgZ (zb4 (zae v) p dr pu q ((zae v).length+1))<=40000000) (hT:zbB (zaq (zb4 (zae v) p dr pu q ((zae v).length+1)))<=40000000) (hk:∀ x∈zaq (zb4 (zae v) p dr pu q ((zae v).length+1)),x.1.length<=1048576) :
  Calls prog 123 #[.string (zac (ct v)),.int .i64 (p:Int),.bool dr,.bool pu,.agg #[.string (zac q.1),.string (zac q.2)]] w fun e w'=>e = .returned (.string (zac (mkV v (zb4 (zae v) p dr pu q ((zae v).length+1)))))/\Below w.heap.size w w':=by
 obtain⟨i0,hi0,hz0,hz1,hz2⟩:=info_parts zfL
 have hpl:=zbq hok hl
 have h0:0 < (zac (ct v)).size:=zd0 hok
 have h0I:(0:Int) < ((zac (ct v)).size:Int):=by omega
 have hfk:=zsv hok h0
 have kA:=yG w (.cells #[.string (zac q.1),.string (zac q.2)] 99)
 have bA:=zai w (.cells #[.string (zac q.1),.string (zac q.2)] 99)
 have zA:(w.alloc (.cells #[.string (zac q.1),.string (zac q.2)] 99)).heap.size=w.heap.size+1:=by simp
 have HP:=zab (zch v hok (w.alloc (.cells #[.string (zac q.1),.string (zac q.2)] 99)) hl)
 have HKA:=zab kA
 have HBA:=zab bA
 have HZA:=zab zA
 have hwl:=zma (zae v) p dr pu q ((zae v).length+1)
 have HMA:Hid (∀ (r:Value) (B:Nat) (wx:World),PR wx B r (zb4 (zae v) p dr pu q ((zae v).length+1))->Calls prog 152 #[r] wx fun e w'=>e = .returned (.string (zac (mkA ((zb4 (zae v) p dr pu q ((zae v).length+1)).map (·.2)))))/\Below wx.heap.size wx w'):=fun r B wx h=>zox B r _ wx h hA (by omega)
 have HSO:Hid (∀ (r:Value) (B:Nat) (wx:World),PR wx B r (zb4 (zae v) p dr pu q ((zae v).length+1))->Calls prog 146 #[r] wx fun e w'=>∃ v',e = .returned v'/\PR w' wx.heap.size v' (zaq (zb4 (zae v) p dr pu q ((zae v).length+1)))/\Below wx.heap.size wx w'):=fun r B wx h=>zia B r _ wx h (by omega)
 have hil:(zaq (zb4 (zae v) p dr pu q ((zae v).length+1))).length<=40000000:=by rw[(zap _).length_eq]; omega
 have HMO:Hid (∀ (r:Value) (B:Nat) (wx:World),PR wx B r (zaq (zb4 (zae v) p dr pu q ((zae v).length+1)))->Calls prog 145 #[r] wx fun e w'=>e = .returned (.string (zac (mkO (zaq (zb4 (zae v) p dr pu q ((zae v).length+1))))))/\Below wx.heap.size wx w'):=fun r B wx h=>zkm B r _ wx h hT hil hk
 have HEA:Hid (kd v=5->mkV v (zb4 (zae v) p dr pu q ((zae v).length+1))=mkA ((zb4 (zae v) p dr pu q ((zae v).length+1)).map (·.2))):=fun h=>by unfold mkV; rw[yg h]
 have HEO:Hid (¬ kd v=5->mkV v (zb4 (zae v) p dr pu q ((zae v).length+1))=mkO (zaq (zb4 (zae v) p dr pu q ((zae v).length+1)))):=fun h=>by unfold mkV; rw[yf h]
 clear kA bA zA hA hT hk hok hl hil hwl
 generalize kd v=K at *
 generalize mkV v (zb4 (zae v) p dr pu q ((zae v).length+1))=R at *
 generalize zae v=ps at *
 generalize zac (ct v)=T at *
 go_enter func123,ntmps123
 go_wp2_with fail
 refine (uh HP).mono ?_
 rintro e w1 ⟨r1,rfl,p1,b1⟩
 have hB1:=zaa (uh HBA) b1
 have HB1:=zab hB1
 have hz1w:w.heap.size < w1.heap.size:=by have:=b1.size; have:=uh HZA; omega
 have HKQ:Hid (∀ wx,Below w1.heap.size w1 wx->wx.cell? ⟨w.heap.size,0,none⟩=some (.string (zac q.1))/\wx.cell? ⟨w.heap.size,1,none⟩=some (.string (zac q.2))):=fun wx hx=>by
  have k:=(hx.block w.heap.size hz1w).trans ((b1.block w.heap.size (by have:=uh HZA; omega)).trans (uh HKA))
  exact⟨yF k 0,yF k 1⟩
 have HPC:Hid (∀ k (hk:k < ps.length) wx,Below w1.heap.size w1 wx->∃ g,r1.ownBlock=some g/\(∃ cap,r1 = .slice (some ⟨g,0,none⟩) ps.length cap)/\wx.cell? ⟨g,k*2,none⟩=some (.string (zac ps[k].1))/\wx.cell? ⟨g,k*2+1,none⟩=some (.string (zac ps[k].2))):=fun k hk wx hx=>by
  obtain⟨g,cap,hv,_,_,c0,c1⟩:=(PR.below p1 hx).cells k hk
  exact⟨g,by rw[hv]; rfl,⟨cap,hv⟩,c0,c1⟩
 obtain⟨xa,xc,rfl⟩:=PR.shape p1
 clear HP b1 p1 hB1 HBA HKA
 go_wp2
 have HO0:Hid ((w1.alloc (.cells #[] 99)).ownsRow w1.heap.size 99 2 (.slice (some ⟨w1.heap.size,0,none⟩) 0 0) 0 []):=World.ownsRow_lit w1 #[] 0 (ye _) (by unfold maxLen; omega) rfl
 have HB0:Hid (Below w1.heap.size w1 (w1.alloc (.cells #[] 99))):=zai w1 _
 go_loopw [12,13] (fun r i wr=>∃ k:Nat,k<=ps.length+1/\i = .int .i64 (k:Int)/\wr.ownsRow w1.heap.size 99 2 r (zb4 ps p dr pu q k).length ((zb4 ps p dr pu q k).flatMap zbc)/\Below w1.heap.size w1 wr) (fun _ i _=>ps.length+1 - (intOf i).toNat)
 case atStart=>exact⟨0,yt _,rfl,uh HO0,uh HB0⟩
 case round=>
  obtain⟨k,hk,rfl,ho,hb⟩:=hrel
  clear HO0 HB0
  have HBR:=zab hb
  have hal:=zma ps p dr pu q k
  have hbz:=hb.size
  by_cases hle:k<=ps.length
  ·have hleI:(k:Int)<=(ps.length:Int):=by omega
   have hal2:(zb4 ps p dr pu q k).length<=2000002:=by omega
   clear HMA HSO HMO HEA HEO
   clear hal
   by_cases hkp:k=p
   ·subst hkp
    have tkp:((k:Int) == (k:Int))=true:=by simp
    have tkn:((k:Int) != (k:Int))=false:=by simp
    obtain⟨c0,c1⟩:=uh HKQ wr hb
    cases pu with
    | true=>
     by_cases hlt:k < ps.length
     ·have hltI:(k:Int) < (ps.length:Int):=by omega
      cases dr with
      | true=>
       have HSTP:Hid (zbx ps k true true q k=[q]):=by show _=_; unfold zbx; simp[hlt]
       obtain⟨A,hAe⟩ : ∃ A,zb4 ps k true true q k=A:=⟨_,rfl⟩
       rw[hAe] at ho hal2
       have HAE:=zab hAe
       clear hAe
       go_wp2_with (at_builtin; refine wpList_append_own _ rfl (.tmp 29) (.tmp 31) 92 rfl w1.heap.size 99 i0 (.agg #[.string ByteArray.empty,.string ByteArray.empty]) 2 32 underlying92 hi0 hz0 hz1 hz2 rfl (by decide) _ _ _ rfl (ho.alloc _) ⟨wr.heap.size,0,none⟩ 1 1 (zbc q) rfl rfl (zix _ _ _ _) (fun u hu=>by { simp[zbc] at hu; rcases hu with rfl | rfl <;> rfl }) (by unfold maxLen; omega) (by omega) (by simp; omega) ?_)
       intro v5 w5 own5 hg5 _
       have P5:w5.ownsRow w1.heap.size 99 2 v5 (A++[q]).length ((A++[q]).flatMap zbc):=by rw[yh,List.flatMap_append,List.flatMap_singleton]; exact own5
       have B5:=zab (((uh HBR).alloc (uh HBR).size _).grown hg5 (by simp; have:=(uh HBR).size; omega) (fun k hk=>(ho.lt k hk).1))
       clear own5 hg5
       clear ho c0 c1
       go_wp2
       go_roundw
       case rel=>exact⟨k+1,by omega,by go_num,by rw[zaR,uh HSTP,uh HAE]; exact P5,uh B5⟩
       case measure=>simp[intOf]; omega
      | false=>
       have HSTP:Hid (zbx ps k false true q k=[q]++[ps[k]]):=by show _=_; unfold zbx; simp[hlt]
       obtain⟨g,-,⟨cap,e⟩,-,-⟩:=uh HPC k hlt wr hb
       injection e with e1 e2 e3
       subst e1; subst e3
       obtain⟨A,hAe⟩ : ∃ A,zb4 ps k false true q k=A:=⟨_,rfl⟩
       rw[hAe] at ho hal2
       have HAE:=zab hAe
       clear hAe
       go_wp2_with (at_builtin; refine wpList_append_own _ rfl (.tmp 29) (.tmp 31) 92 rfl w1.heap.size 99 i0 (.agg #[.string ByteArray.empty,.string ByteArray.empty]) 2 32 underlying92 hi0 hz0 hz1 hz2 rfl (by decide) _ _ _ rfl (ho.alloc _) ⟨wr.heap.size,0,none⟩ 1 1 (zbc q) rfl rfl (zix _ _ _ _) (fun u hu=>by { simp[zbc] at hu; rcases hu with rfl | rfl <;> rfl }) (by unfold maxLen; omega) (by omega) (by simp; omega) ?_)
       intro v5 w5 own5 hg5 _
       have P5:w5.ownsRow w1.heap.size 99 2 v5 (A++[q]).length ((A++[q]).flatMap zbc):=by rw[yh,List.flatMap_append,List.flatMap_singleton]; exact own5
       have B5:=zab (((uh HBR).alloc (uh HBR).size _).grown hg5 (by simp; have:=(uh HBR).size; omega) (fun k hk=>(ho.lt k hk).1))
       clear own5 hg5
       obtain⟨g',eg,-,d0,d1⟩:=uh HPC k hlt w5 (uh B5)
       injection eg with eg
       subst eg
       have hal5:(A++[q]).length<=2000003:=by rw[yh]; simp; omega
       obtain⟨A2,hA2⟩ : ∃ A2,A++[q]=A2:=⟨_,rfl⟩
       rw[hA2] at P5 hal5
       have HA2E:=zab hA2
       have hz5w:=(uh B5).size
       clear hA2
       clear ho c0 c1
       go_wp2_with (at_builtin; refine wpList_append_own _ rfl (.tmp 46) (.tmp 51) 92 rfl w1.heap.size 99 i0 (.agg #[.string ByteArray.empty,.string ByteArray.empty]) 2 32 underlying92 hi0 hz0 hz1 hz2 rfl (by decide) _ _ _ rfl (P5.alloc _) ⟨w5.heap.size,0,none⟩ 1 1 (zbc ps[k]) rfl rfl (zix _ _ _ _) (fun u hu=>by { simp[zbc] at hu; rcases hu with rfl | rfl <;> rfl }) (by unfold maxLen; omega) (by omega) (by simp; omega) ?_)
       intro v7 w7 own7 hg7 _
       have P7:w7.ownsRow w1.heap.size 99 2 v7 (A2++[ps[k]]).length ((A2++[ps[k]]).flatMap zbc):=by rw[yh,List.flatMap_append,List.flatMap_singleton]; exact own7
       have B7:=zab (((uh B5).alloc (uh B5).size _).grown hg7 (by simp; have:=(uh B5).size; omega) (fun k hk=>(P5.lt k hk).1))
       clear own7 hg7
       clear P5 d0 d1
       go_wp2
       go_roundw
       case rel=>exact⟨k+1,by omega,by go_num,by rw[zaR,uh HSTP,← List.append_assoc,uh HAE,uh HA2E]; exact P7,uh B7⟩
       case measure=>simp[intOf]; omega
     ·have hltI:¬ (k:Int) < (ps.length:Int):=by omega
      have HSTP:Hid (zbx ps k dr true q k=[q]):=by show _=_; unfold zbx; simp[hlt]
      obtain⟨A,hAe⟩ : ∃ A,zb4 ps k dr true q k=A:=⟨_,rfl⟩
      rw[hAe] at ho hal2
      have HAE:=zab hAe
      clear hAe
      go_wp2_with (at_builtin; refine wpList_append_own _ rfl (.tmp 29) (.tmp 31) 92 rfl w1.heap.size 99 i0 (.agg #[.string ByteArray.empty,.string ByteArray.empty]) 2 32 underlying92 hi0 hz0 hz1 hz2 rfl (by decide) _ _ _ rfl (ho.alloc _) ⟨wr.heap.size,0,none⟩ 1 1 (zbc q) rfl rfl (zix _ _ _ _) (fun u hu=>by { simp[zbc] at hu; rcases hu with rfl | rfl <;> rfl }) (by unfold maxLen; omega) (by omega) (by simp; omega) ?_)
      intro v5 w5 own5 hg5 _
      have P5:w5.ownsRow w1.heap.size 99 2 v5 (A++[q]).length ((A++[q]).flatMap zbc):=by rw[yh,List.flatMap_append,List.flatMap_singleton]; exact own5
      have B5:=zab (((uh HBR).alloc (uh HBR).size _).grown hg5 (by simp; have:=(uh HBR).size; omega) (fun k hk=>(ho.lt k hk).1))
      clear own5 hg5
      clear ho c0 c1
      go_wp2
      go_roundw
      case rel=>exact⟨k+1,by omega,by go_num,by rw[zaR,uh HSTP,uh HAE]; exact P5,uh B5⟩
      case measure=>simp[intOf]; omega
    | false=>
     clear c0 c1
     by_cases hlt:k < ps.length
     ·have hltI:(k:Int) < (ps.length:Int):=by omega
      cases dr with
      | true=>
       have HSTP:Hid (zbx ps k true false q k=[]):=by show _=_; unfold zbx; simp[hlt]
       have P5:wr.ownsRow w1.heap.size 99 2 u12 (zb4 ps k true false q k++[]).length ((zb4 ps k true false q k++[]).flatMap zbc):=by rw[List.append_nil]; exact ho
       go_wp2
       go_roundw
       case rel=>exact⟨k+1,by omega,by go_num,by rw[zaR,uh HSTP]; exact P5,uh HBR⟩
       case measure=>simp[intOf]; omega
      | false=>
       have HSTP:Hid (zbx ps k false false q k=[ps[k]]):=by show _=_; unfold zbx; simp[hlt]
       obtain⟨g,-,⟨cap,e⟩,d0,d1⟩:=uh HPC k hlt wr hb
       injection e with e1 e2 e3
       subst e1; subst e3
       obtain⟨A,hAe⟩ : ∃ A,zb4 ps k false false q k=A:=⟨_,rfl⟩
       rw[hAe] at ho hal2
       have HAE:=zab hAe
       clear hAe
       go_wp2_with (at_builtin; refine wpList_append_own _ rfl (.tmp 46) (.tmp 51) 92 rfl w1.heap.size 99 i0 (.agg #[.string ByteArray.empty,.string ByteArray.empty]) 2 32 underlying92 hi0 hz0 hz1 hz2 rfl (by decide) _ _ _ rfl (ho.alloc _) ⟨wr.heap.size,0,none⟩ 1 1 (zbc ps[k]) rfl rfl (zix _ _ _ _) (fun u hu=>by { simp[zbc] at hu; rcases hu with rfl | rfl <;> rfl }) (by unfold maxLen; omega) (by omega) (by simp; omega) ?_)
       intro v5 w5 own5 hg5 _
       have P5:w5.ownsRow w1.heap.size 99 2 v5 (A++[ps[k]]).length ((A++[ps[k]]).flatMap zbc):=by rw[yh,List.flatMap_append,List.flatMap_singleton]; exact own5
       have B5:=zab (((uh HBR).alloc (uh HBR).size _).grown hg5 (by simp; have:=(uh HBR).size; omega) (fun k hk=>(ho.lt k hk).1))
       clear own5 hg5
       clear ho d0 d1
       go_wp2
       go_roundw
       case rel=>exact⟨k+1,by omega,by go_num,by rw[zaR,uh HSTP,uh HAE]; exact P5,uh B5⟩
       case measure=>simp[intOf]; omega
     ·have hltI:¬ (k:Int) < (ps.length:Int):=by omega
      have HSTP:Hid (zbx ps k dr false q k=[]):=by show _=_; unfold zbx; simp[hlt]
      have P5:wr.ownsRow w1.heap.size 99 2 u12 (zb4 ps k dr false q k++[]).length ((zb4 ps k dr false q k++[]).flatMap zbc):=by rw[List.append_nil]; exact ho
      go_wp2
      go_roundw
      case rel=>exact⟨k+1,by omega,by go_num,by rw[zaR,uh HSTP]; exact P5,uh HBR⟩
      case measure=>simp[intOf]; omega
   ·have tkp:((k:Int) == (p:Int))=false:=by rw[yd]; omega
    have tkn:((k:Int) != (p:Int))=true:=by simp; omega
    by_cases hlt:k < ps.length
    ·have hltI:(k:Int) < (ps.length:Int):=by omega
     have HSTP:Hid (zbx ps p dr pu q k=[ps[k]]):=by show _=_; unfold zbx; simp[hlt,hkp]
     obtain⟨g,-,⟨cap,e⟩,d0,d1⟩:=uh HPC k hlt wr hb
     injection e with e1 e2 e3
     subst e1; subst e3
     clear hkp
     obtain⟨A,hAe⟩ : ∃ A,zb4 ps p dr pu q k=A:=⟨_,rfl⟩
     rw[hAe] at ho hal2
     have HAE:=zab hAe
     clear hAe
     go_wp2_with (at_builtin; refine wpList_append_own _ rfl (.tmp 46) (.tmp 51) 92 rfl w1.heap.size 99 i0 (.agg #[.string ByteArray.empty,.string ByteArray.empty]) 2 32 underlying92 hi0 hz0 hz1 hz2 rfl (by decide) _ _ _ rfl (ho.alloc _) ⟨wr.heap.size,0,none⟩ 1 1 (zbc ps[k]) rfl rfl (zix _ _ _ _) (fun u hu=>by { simp[zbc] at hu; rcases hu with rfl | rfl <;> rfl }) (by unfold maxLen; omega) (by omega) (by simp; omega) ?_)
     intro v5 w5 own5 hg5 _
     have P5:w5.ownsRow w1.heap.size 99 2 v5 (A++[ps[k]]).length ((A++[ps[k]]).flatMap zbc):=by rw[yh,List.flatMap_append,List.flatMap_singleton]; exact own5
     have B5:=zab (((uh HBR).alloc (uh HBR).size _).grown hg5 (by simp; have:=(uh HBR).size; omega) (fun k hk=>(ho.lt k hk).1))
     clear own5 hg5
     clear ho d0 d1
     go_wp2
     go_roundw
     case rel=>exact⟨k+1,by omega,by go_num,by rw[zaR,uh HSTP,uh HAE]; exact P5,uh B5⟩
     case measure=>simp[intOf]; omega
    ·have hltI:¬ (k:Int) < (ps.length:Int):=by omega
     have HSTP:Hid (zbx ps p dr pu q k=[]):=by show _=_; unfold zbx; simp[hlt,hkp]
     have P5:wr.ownsRow w1.heap.size 99 2 u12 (zb4 ps p dr pu q k++[]).length ((zb4 ps p dr pu q k++[]).flatMap zbc):=by rw[List.append_nil]; exact ho
     clear hkp
     go_wp2
     go_roundw
     case rel=>exact⟨k+1,by omega,by go_num,by rw[zaR,uh HSTP]; exact P5,uh HBR⟩
     case measure=>simp[intOf]; omega
  ·have hleI:¬ (k:Int)<=(ps.length:Int):=by omega
   have hkn:k=ps.length+1:=by omega
   subst hkn
   have HBF:=zab (zaa (uh HB1) (uh HBR))
   by_cases h5:K=5
   ·have HM:=zab (uh HMA u12 _ wr ho)
    have HE:=zab (uh HEA h5)
    rw[h5] at hfk
    have hfk':(((T[0]).toNat:Int) == 91)=true:=hfk
    clear HMA HSO HMO HEA HEO hfk h5 ho hb
    go_wp2_with fail
    refine (uh HM).mono ?_
    rintro e w4 ⟨rfl,b4⟩
    have HB4:=zab (zaa (uh HBF) b4)
    clear HM b4
    go_wp2
    go_ret
    exact⟨by rw[uh HE]; rfl,uh HB4⟩
   ·have HS:=zab (uh HSO u12 _ wr ho)
    have HE:=zab (uh HEO h5)
    have hfk':(((T[0]).toNat:Int) == 91)=false:=by rw[hfk]; simp[h5]
    clear HMA HSO HEA HEO hfk h5 ho hb
    go_wp2_with fail
    refine (uh HS).mono ?_
    rintro e w4 ⟨r4,rfl,p4,b4⟩
    have HM:=zab (uh HMO r4 _ w4 p4)
    have HB4:=zab (zaa (uh HBF) b4)
    clear HS HMO p4 b4
    go_wp2_with fail
    refine (uh HM).mono ?_
    rintro e w5 ⟨rfl,b5⟩
    have HB5:=zab (zaa (uh HB4) b5)
    clear HM b5
    go_wp2
    go_ret
    exact⟨by rw[uh HE]; rfl,uh HB5⟩
end Go.Proofs.YtekpghcckdjnhaaGreatDoor
