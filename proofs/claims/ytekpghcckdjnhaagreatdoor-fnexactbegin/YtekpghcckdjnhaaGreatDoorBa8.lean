import Derived.Test.YtekpghcckdjnhaaGreatDoorBa7
import Derived.Lib.ParseIntBCases
import Derived.Lib.ItoaMem
set_option maxRecDepth 100000
set_option maxHeartbeats 8000000
namespace Go.Proofs.YtekpghcckdjnhaaGreatDoor
open Go.RowKit Go.Proofs.Tryz
def ziw (t:List UInt8) : Int:=match zgh t with
 | some i=>(i:Int)
 | none=>-1
theorem zel (s:ByteArray) (w:World) (hs:s.size<=1048576) :
  Calls prog 124 #[.string s] w fun e w'=>e = .returned (.int .i64 (ziw s.data.toList))/\w=w':=by
 have hbad:¬ zm9 s.data.toList=true->ziw s.data.toList = -1:=fun h=>by unfold ziw zgh; rw[yf h]
 have hdl:=zak s
 by_cases h1:s.size < 1
 ·have HB:=zab (hbad (fun h=>by have:=(zbs.1 h).1; omega))
  have t1:(s.size:Int) < 1:=by omega
  clear hbad h1
  go_enter func124,ntmps124
  go_wp2
  go_ret
  exact⟨by rw[uh HB]; rfl,rfl⟩
 ·have t1:¬ (s.size:Int) < 1:=by omega
  by_cases h6:6 < s.size
  ·have HB:=zab (hbad (fun h=>by have:=(zbs.1 h).2.1; omega))
   have t2:(6:Int) < (s.size:Int):=by omega
   clear hbad h1 h6
   go_enter func124,ntmps124
   go_wp2
   go_ret
   exact⟨by rw[uh HB]; rfl,rfl⟩
  ·have t2:¬ (6:Int) < (s.size:Int):=by omega
   have h0:0 < s.size:=by omega
   have hg0:(s.data.toList.getD 0 0)=s[0]:=by rw[List.getD,yx (by omega)]; rfl
   have hI:(0:Int) < (s.size:Int):=by omega
   by_cases hz:s[0].toNat=48/\1 < s.size
   ·have HB:=zab (hbad (fun h=>(zbs.1 h).2.2.1 ⟨by rw[hg0]; exact hz.1,by omega⟩))
    have t3:((s[0].toNat:Int) == 48)=true:=by rw[yC]; omega
    have t4:(1:Int) < (s.size:Int):=by omega
    clear hbad h1 h6 hz hg0
    go_enter func124,ntmps124
    go_wp2
    go_ret
    exact⟨by rw[uh HB]; rfl,rfl⟩
   ·have HD:Hid (∀ (k:Nat) (hk:k < s.size) (w:World),Calls prog 108 #[.int .u8 (s[k].toNat:Int)] w fun e w'=>e = .returned (.bool (zbo s[k].toNat))/\w=w'):=fun k hk w=>zdo s[k].toNat w
    have HBAD:Hid (∀ k (hk:k < s.size),zbo s[k].toNat=false->ziw s.data.toList = -1):=fun k hk hd=>hbad (fun h=>by
     have:=(zbs.1 h).2.2.2 s[k] (by rw[← zyv s k hk]; exact yr _)
     rw[hd] at this; cases this)
    have HGOOD:Hid ((∀ k (hk:k < s.size),zbo s[k].toNat=true)->ziw s.data.toList=(zeN s.data.toList:Int)):=fun hall=>by
     have hok:zm9 s.data.toList=true:=zbs.2 ⟨by omega,by omega,fun ⟨a,b⟩=>hz ⟨by rw[← hg0]; exact a,by omega⟩,fun c hc=>by
      obtain⟨j,hj,rfl⟩:=List.getElem_of_mem hc
      exact hall j (by omega)⟩
     unfold ziw zgh; rw[yg hok]
    have t34:((s[0].toNat:Int) == 48)=false∨((s[0].toNat:Int) == 48)=true/\¬ (1:Int) < (s.size:Int):=by
     by_cases e:s[0].toNat=48
     ·right; exact⟨by rw[yC]; omega,by omega⟩
     ·left; rw[yd]; omega
    have h6':s.size<=6:=by omega
    clear hbad hz hg0 h1 h6
    rcases t34 with t3 | ⟨t3,t4⟩
    all_goals
     go_enter func124,ntmps124
     go_wp2
     go_loopw [3,4] (fun vv iv wr=>∃ k:Nat,k<=s.size/\iv = .int .i64 (k:Int)/\vv = .int .i64 ((zeN (s.data.toList.take k) : Nat) : Int)/\(∀ j (hj:j < s.size),j < k->zbo s[j].toNat=true)/\w=wr) (fun _ iv _=>s.size - (intOf iv).toNat)
     case atStart=>exact⟨0,yt _,rfl,rfl,fun j _ hj=>by omega,rfl⟩
     case round=>
      obtain⟨k,hk,rfl,rfl,hall,rfl⟩:=hrel
      have HALL:=zab hall
      clear hall
      by_cases hlt:k < s.size
      ·have hltI:(k:Int) < (s.size:Int):=by omega
       have HDk:=zab (uh HD k hlt w)
       have hst:s.data.toList.take (k+1)=s.data.toList.take k++[s[k]]:=zfP s k hlt
       have HST:Hid (zeN (s.data.toList.take (k+1))=zeN (s.data.toList.take k)*10+(s[k].toNat - 48)):=by show _=_; rw[hst,zc6]
       have hlo:zeN (s.data.toList.take k) < 1000000∨¬ ∀ c∈s.data.toList.take k,zbo c.toNat=true:=by
        rcases ztY k (s.data.toList.take k) (by rw[ym]; omega) with h | h
        ·left
         have:10 ^ k<=10 ^ 6:=Nat.pow_le_pow_right (by omega) (by omega)
         omega
        ·exact .inr h
       have hlo':zeN (s.data.toList.take k) < 1000000:=hlo.elim id fun h=>absurd (fun c hc=>by
        obtain⟨j,hj,rfl⟩:=List.getElem_of_mem hc
        rw[ym] at hj
        rw[List.getElem_take]
        exact uh HALL j (by omega) (by omega)) h
       cases hd:zbo s[k].toNat with
       | false=>
        have HV:=zab (uh HBAD k hlt hd)
        rw[hd] at HDk
        clear hd HST hst hlo hlo' HALL HBAD HGOOD HD
        go_wp2_with fail
        refine (uh HDk).mono ?_
        rintro e w2 ⟨rfl,rfl⟩
        clear HDk
        go_wp2
        go_ret
        exact⟨by rw[uh HV]; rfl,rfl⟩
       | true=>
        have hb:=zaH.1 hd
        have HA2:Hid (∀ j (hj:j < s.size),j < k+1->zbo s[j].toNat=true):=fun j hj hjk=>by
         by_cases e:j=k
         ·subst e; exact hd
         ·exact uh HALL j hj (by omega)
        rw[hd] at HDk
        have hb1:(48:Int)<=(s[k].toNat:Int):=by omega
        have hb2:(s[k].toNat:Int)<=57:=by omega
        generalize zeN (s.data.toList.take k)=D at *
        clear hd hst hlo HALL HBAD HGOOD HD
        go_wp2_with fail
        refine (uh HDk).mono ?_
        rintro e w2 ⟨rfl,rfl⟩
        clear HDk
        go_wp2
        go_roundw
        case rel=>exact⟨k+1,by omega,by go_num,by rw[uh HST]; go_num,uh HA2,trivial⟩
        case measure=>simp[intOf]; omega
      ·have e:s.data.toList.take k=s.data.toList:=yq (by omega)
       rw[e]
       have HV:=zab (uh HGOOD (fun j hj=>uh HALL j hj (by omega)))
       generalize zeN s.data.toList=D at *
       clear HALL HBAD HGOOD HD e
       go_wp2
       go_ret
       exact⟨by rw[uh HV]; rfl,rfl⟩
def zxR (l:List UInt8) : Prop:=∃ (sg ds:List UInt8) (d:UInt8),l=sg++d :: ds/\(sg=[]∨sg=[45])/\zbo d.toNat=true/\(∀ b∈ds,zbo b.toNat=true)/\(d.toNat=48->ds=[]/\sg=[])
mutual
def rdV:JV->Prop
 | .nul=>True
 | .tt=>True
 | .ff=>True
 | .num l=>zxR l
 | .str l=>Lib.validD l=true
 | .arr l=>rdL l
 | .obj m=>rdM m
def rdL:JL->Prop
 | .nil=>True
 | .cons v r=>rdV v/\rdL r
def rdM:JM->Prop
 | .nil=>True
 | .cons k v r=>Lib.validD k=true/\rdV v/\rdM r
end
mutual
def srV:JV->Prop
 | .arr l=>srL l
 | .obj m=>srM m/\zaq (ctM m)=ctM m
 | _=>True
def srL:JL->Prop
 | .nil=>True
 | .cons v r=>srV v/\srL r
def srM:JM->Prop
 | .nil=>True
 | .cons _ v r=>srV v/\srM r
end
theorem zrO {l:List UInt8} (h:zxR l) : ∃ (c:UInt8) (r:List UInt8),l=c :: r/\(c.toNat=45∨zbo c.toNat=true)/\∀ b∈r,zbo b.toNat=true:=by
 obtain⟨sg,ds,d,rfl,hs,hd,hds,_⟩:=h
 rcases hs with rfl | rfl
 ·exact⟨d,ds,rfl,.inr hd,hds⟩
 ·refine⟨45,d :: ds,rfl,.inl rfl,fun b hb=>?_⟩
  rcases List.mem_cons.1 hb with rfl | hb
  ·exact hd
  ·exact hds b hb
mutual
theorem zlD:∀ v:JV,rdV v->okV v
 | .nul,_=>by rw[okV]; trivial
 | .tt,_=>by rw[okV]; trivial
 | .ff,_=>by rw[okV]; trivial
 | .num l,h=>by rw[rdV] at h; rw[okV]; exact zrO h
 | .str l,h=>by rw[rdV] at h; rw[okV]; exact h
 | .arr l,h=>by rw[rdV] at h; rw[okV]; exact zuy l h
 | .obj m,h=>by rw[rdV] at h; rw[okV]; exact zuz m h
theorem zuy:∀ l:JL,rdL l->okL l
 | .nil,_=>by rw[okL]; trivial
 | .cons v r,h=>by rw[rdL] at h; rw[okL]; exact⟨zlD v h.1,zuy r h.2⟩
theorem zuz:∀ m:JM,rdM m->okM m
 | .nil,_=>by rw[okM]; trivial
 | .cons k v r,h=>by rw[rdM] at h; rw[okM]; exact⟨h.1,zlD v h.2.1,zuz r h.2.2⟩
end
theorem zuA {T:ByteArray} : ∀ (ds m:List UInt8) (i:Nat),T.data.toList.drop i=ds++m->(∀ b∈ds,zbo b.toNat=true)->zlm m->dg T i=i+ds.length
 | [],m,i,h,_,hm=>by
  rcases hm with rfl | ⟨c,r,rfl,hc⟩
  ·rw[List.nil_append] at h
   have:T.size<=i:=by
    have:=List.drop_eq_nil_iff.1 h
    rw[zak] at this; exact this
   rw[zgr (by rw[zcL T i this]; decide)]; rfl
  ·obtain⟨_,hb,_⟩:=zan (T:=T) h
   rw[zgr (by rw[hb,zaH]; omega)]; rfl
 | d :: ds,m,i,h,hd,hm=>by
  obtain⟨_,hb,h2⟩:=zan (T:=T) h
  rw[ziu (by rw[hb]; exact hd d yp),zuA ds m (i+1) h2 (fun b hb=>hd b (yv _ hb)) hm,yn]
  omega
theorem ztM {T:ByteArray} {i:Nat} {l m:List UInt8} (h:T.data.toList.drop i=l++m) : zaX T i (i+l.length)=l:=by
 unfold zaX
 rw[h,show i+l.length - i=l.length by omega,List.take_left]
theorem zyr {T:ByteArray} {i:Nat} {l m:List UInt8} (hn:zxR l) (h:T.data.toList.drop i=l++m) (hm:zlm m) : nm T i=some (l,i+l.length):=by
 have hc:=ztM h
 obtain⟨sg,ds,d,rfl,hs,hd,hds,h0⟩:=hn
 have hdv:=zaH.1 hd
 have key:∀ k,nmD T i=k->T.data.toList.drop k=d :: (ds++m)->k+1+ds.length=i+(sg++d :: ds).length->nm T i=some (sg++d :: ds,i+(sg++d :: ds).length):=by
  intro k e1 e2 e3
  obtain⟨_,hb,h2⟩:=zan (T:=T) e2
  have e4:nmE T i=i+(sg++d :: ds).length:=by
   unfold nmE
   rw[e1,hb]
   split
   ·rename_i hz
    obtain⟨q1,q2⟩:=h0 hz
    subst q1
    simp only[yD] at e3
    omega
   ·rw[ziu (by rw[hb]; exact hd),zuA ds m (k+1) h2 hds hm]; omega
  unfold nm
  rw[e1,hb,yg hd,e4,hc]
  unfold zbM
  rw[yf]
  intro e
  rcases hs with rfl | rfl
  ·rw[List.nil_append] at e; injection e with e _; subst e; simp[zbo] at hd
  ·simp only[List.cons_append,List.nil_append,List.cons.injEq,true_and] at e
   have:d.toNat=48:=by rw[e.1]; rfl
   have:=(h0 this).2
   cases this
 rcases hs with rfl | rfl
 ·rw[List.nil_append] at h
  rw[List.cons_append] at h
  obtain⟨_,hb,h2⟩:=zan (T:=T) h
  refine key i ?_ h (by simp; omega)
  unfold nmD; rw[yf (by omega)]
 ·rw[List.cons_append,List.nil_append,List.cons_append] at h
  obtain⟨_,hb,h2⟩:=zan (T:=T) h
  refine key (i+1) ?_ h2 (by simp; omega)
  unfold nmD; rw[yg (by rw[hb]; rfl)]
theorem zfI {v:JV} (h:okV v) : ∃ (c:UInt8) (r:List UInt8),ct v=c :: r/\c.toNat≠32/\c.toNat≠9/\c.toNat≠10/\c.toNat≠13/\c.toNat≠93/\c.toNat≠125:=by
 cases v with
 | nul=>exact⟨_,_,rfl,by decide,by decide,by decide,by decide,by decide,by decide⟩
 | tt=>exact⟨_,_,rfl,by decide,by decide,by decide,by decide,by decide,by decide⟩
 | ff=>exact⟨_,_,rfl,by decide,by decide,by decide,by decide,by decide,by decide⟩
 | num l=>
  rw[okV] at h
  obtain⟨c,r,rfl,hc,_⟩:=h
  have:c.toNat=45∨(48<=c.toNat/\c.toNat<=57):=hc.imp id zaH.1
  exact⟨c,r,rfl,by omega,by omega,by omega,by omega,by omega,by omega⟩
 | str l=>exact⟨34,_,rfl,by decide,by decide,by decide,by decide,by decide,by decide⟩
 | arr l=>exact⟨91,_,rfl,by decide,by decide,by decide,by decide,by decide,by decide⟩
 | obj m=>exact⟨123,_,rfl,by decide,by decide,by decide,by decide,by decide,by decide⟩
theorem zbN {T:ByteArray} {i:Nat} {c:UInt8} {r:List UInt8} (h:T.data.toList.drop i=c :: r) (h1:c.toNat≠32) (h2:c.toNat≠9) (h3:c.toNat≠10) (h4:c.toNat≠13) : sk T i=i:=by
 obtain⟨_,hb,_⟩:=zan (T:=T) h
 exact zle (by omega)
mutual
theorem zrP {T:ByteArray} : ∀ v:JV,rdV v->srV v->∀ i m,T.data.toList.drop i=ct v++m->zlm m->val T i=some (v,i+(ct v).length)
 | .nul,_,_,i,m,h,_=>by
  have h0:T.data.toList.drop i=110 :: 117 :: 108 :: 108 :: m:=h
  obtain⟨_,b0,h1⟩:=zan (T:=T) h0
  obtain⟨_,b1,h2⟩:=zan (T:=T) h1
  obtain⟨_,b2,h3⟩:=zan (T:=T) h2
  obtain⟨_,b3,_⟩:=zan (T:=T) h3
  rw[zcz (by rw[b0]; decide) (by rw[b0]; decide) (by rw[b0]; decide),yg (by unfold zdm; rw[b0,b1,b2,b3]; rfl)]
  rfl
 | .tt,_,_,i,m,h,_=>by
  have h0:T.data.toList.drop i=116 :: 114 :: 117 :: 101 :: m:=h
  obtain⟨_,b0,h1⟩:=zan (T:=T) h0
  obtain⟨_,b1,h2⟩:=zan (T:=T) h1
  obtain⟨_,b2,h3⟩:=zan (T:=T) h2
  obtain⟨_,b3,_⟩:=zan (T:=T) h3
  rw[zcz (by rw[b0]; decide) (by rw[b0]; decide) (by rw[b0]; decide),yf (by unfold zdm; rw[b0]; simp),yg (by unfold zdJ; rw[b0,b1,b2,b3]; rfl)]
  rfl
 | .ff,_,_,i,m,h,_=>by
  have h0:T.data.toList.drop i=102 :: 97 :: 108 :: 115 :: 101 :: m:=h
  obtain⟨_,b0,h1⟩:=zan (T:=T) h0
  obtain⟨_,b1,h2⟩:=zan (T:=T) h1
  obtain⟨_,b2,h3⟩:=zan (T:=T) h2
  obtain⟨_,b3,h4⟩:=zan (T:=T) h3
  obtain⟨_,b4,_⟩:=zan (T:=T) h4
  rw[zcz (by rw[b0]; decide) (by rw[b0]; decide) (by rw[b0]; decide),yf (by unfold zdm; rw[b0]; simp),yf (by unfold zdJ; rw[b0]; simp),yg (by unfold zco; rw[b0,b1,b2,b3,b4]; rfl)]
  rfl
 | .num l,hr,_,i,m,h,hm=>by
  rw[rdV] at hr
  have hn:=zyr hr h hm
  obtain⟨c,r,rfl,hc,_⟩:=zrO hr
  obtain⟨_,b0,_⟩:=zan (T:=T) (c:=c) (m:=r++m) h
  have:c.toNat=45∨(48<=c.toNat/\c.toNat<=57):=hc.imp id zaH.1
  rw[zcz (by omega) (by omega) (by omega),yf (by unfold zdm; simp; omega),yf (by unfold zdJ; simp; omega),yf (by unfold zco; simp; omega),hn]
  rfl
 | .str l,hr,_,i,m,h,_=>by
  rw[rdV] at hr
  obtain⟨_,b0,_⟩:=zan (T:=T) (c:=34) (m:=qs l++[34]++m) (by rw[h]; simp[ct,quoted])
  rw[zmZ (by rw[b0]; rfl),zc2 l T m hr i h]
  rfl
 | .arr .nil,_,_,i,m,h,_=>by
  have h0:T.data.toList.drop i=91 :: 93 :: m:=h
  obtain⟨_,b0,h1⟩:=zan (T:=T) h0
  obtain⟨_,b1,_⟩:=zan (T:=T) h1
  rw[zjW (by rw[b0]; rfl),zbN h1 (by decide) (by decide) (by decide) (by decide),yg (by rw[b1]; rfl)]
  rfl
 | .arr (.cons v r),hr,hs,i,m,h,hm=>by
  rw[rdV] at hr
  rw[srV] at hs
  have h0:T.data.toList.drop i=91 :: (joinC (ctL (.cons v r))++93 :: m):=by rw[h]; simp[ct,mkA]
  obtain⟨_,b0,h1⟩:=zan (T:=T) h0
  have hrv:=hr
  rw[rdL] at hrv
  obtain⟨c,q,e,c1,c2,c3,c4,c5,_⟩:=zfI (zlD v hrv.1)
  have h1':T.data.toList.drop (i+1)=c :: (q++(joinT (ctL r)++93 :: m)):=by rw[h1,ctL,joinC,e]; simp
  obtain⟨_,b1,_⟩:=zan (T:=T) h1'
  rw[zjW (by rw[b0]; rfl),zbN h1' c1 c2 c3 c4,yf (by rw[b1]; exact c5),zuB v r hr hs (i+1) m h1]
  have e2:(ct (.arr (.cons v r))).length=(joinC (ctL (.cons v r))).length+2:=by simp[ct,mkA]
  rw[e2]
  simp only[Option.map_some,Option.some.injEq,Prod.mk.injEq,true_and]
  omega
 | .obj .nil,_,_,i,m,h,_=>by
  have h0:T.data.toList.drop i=123 :: 125 :: m:=h
  obtain⟨_,b0,h1⟩:=zan (T:=T) h0
  obtain⟨_,b1,_⟩:=zan (T:=T) h1
  rw[zjX (by rw[b0]; rfl),zbN h1 (by decide) (by decide) (by decide) (by decide),yg (by rw[b1]; rfl)]
  rfl
 | .obj (.cons k v r),hr,hs,i,m,h,hm=>by
  rw[rdV] at hr
  rw[srV] at hs
  have hc:ct (.obj (.cons k v r))=123 :: (joinC ((ctM (.cons k v r)).map zav)++[125]):=by rw[ct,hs.2]; rfl
  have h0:T.data.toList.drop i=123 :: (joinC ((ctM (.cons k v r)).map zav)++125 :: m):=by rw[h,hc]; simp
  obtain⟨_,b0,h1⟩:=zan (T:=T) h0
  have h1':T.data.toList.drop (i+1)=34 :: (qs k++[34]++58 :: ct v++(joinT ((ctM r).map zav)++125 :: m)):=by rw[h1,ctM,yi,joinC]; simp[zav,quoted]
  obtain⟨_,b1,_⟩:=zan (T:=T) h1'
  rw[zjX (by rw[b0]; rfl),zbN h1' (by decide) (by decide) (by decide) (by decide),yf (by rw[b1]; decide),zuC k v r hr hs.1 (i+1) m h1]
  rw[hc]
  simp only[Option.map_some,Option.some.injEq,Prod.mk.injEq,true_and,yn,yh,yD]
  omega
termination_by v=>SizeOf.sizeOf v
decreasing_by all_goals simp_wf; all_goals omega
theorem zuB {T:ByteArray} : ∀ (v:JV) (r:JL),rdL (.cons v r)->srL (.cons v r)->∀ i m,T.data.toList.drop i=joinC (ctL (.cons v r))++93 :: m->elems T i=some (.cons v r,i+(joinC (ctL (.cons v r))).length+1)
 | v,.nil,hr,hs,i,m,h=>by
  rw[rdL] at hr
  rw[srL] at hs
  have h':T.data.toList.drop i=ct v++93 :: m:=by rw[h]; simp[ctL,joinC,joinT]
  have hv:=zrP v hr.1 hs.1 i (93 :: m) h' (.inr ⟨93,m,rfl,.inr (.inl rfl)⟩)
  have h2:T.data.toList.drop (i+(ct v).length)=93 :: m:=zaF h'
  obtain⟨_,b2,_⟩:=zan (T:=T) h2
  rw[zdK,hv]
  simp only[yA]
  rw[zbN h2 (by decide) (by decide) (by decide) (by decide),yg (by rw[b2]; rfl)]
  simp[ctL,joinC,joinT]
 | v,.cons u r,hr,hs,i,m,h=>by
  rw[rdL] at hr
  rw[srL] at hs
  have h':T.data.toList.drop i=ct v++44 :: (joinC (ctL (.cons u r))++93 :: m):=by rw[h]; simp[ctL,joinC,joinT]
  have hv:=zrP v hr.1 hs.1 i _ h' (.inr ⟨44,_,rfl,.inl rfl⟩)
  have h2:T.data.toList.drop (i+(ct v).length)=44 :: (joinC (ctL (.cons u r))++93 :: m):=zaF h'
  obtain⟨_,b2,h3⟩:=zan (T:=T) h2
  have hru:=hr.2
  rw[rdL] at hru
  obtain⟨c,q,e,c1,c2,c3,c4,_,_⟩:=zfI (zlD u hru.1)
  have h3':T.data.toList.drop (i+(ct v).length+1)=c :: (q++(joinT (ctL r)++93 :: m)):=by rw[h3,ctL,joinC,e]; simp
  rw[zdK,hv]
  simp only[yA]
  rw[zbN h2 (by decide) (by decide) (by decide) (by decide),yf (by rw[b2]; decide),yg (by rw[b2]; rfl),zbN h3' c1 c2 c3 c4,zuB u r hr.2 hs.2 _ m h3]
  have e2:(joinC (ctL (.cons v (.cons u r)))).length=(ct v).length+1+(joinC (ctL (.cons u r))).length:=by simp[ctL,joinC,joinT]; omega
  rw[e2]
  simp only[Option.map_some,Option.some.injEq,Prod.mk.injEq,true_and]
  omega
termination_by v r=>SizeOf.sizeOf v+SizeOf.sizeOf r
decreasing_by all_goals simp_wf; all_goals omega
theorem zuC {T:ByteArray} : ∀ (k:List UInt8) (v:JV) (r:JM),rdM (.cons k v r)->srM (.cons k v r)->∀ i m,T.data.toList.drop i=joinC ((ctM (.cons k v r)).map zav)++125 :: m->zhP T i=some (.cons k v r,i+(joinC ((ctM (.cons k v r)).map zav)).length+1)
 | k,v,.nil,hr,hs,i,m,h=>by
  rw[rdM] at hr
  rw[srM] at hs
  have h':T.data.toList.drop i=quoted k++(58 :: (ct v++125 :: m)):=by rw[h]; simp[ctM,joinC,joinT,zav]
  have hk:=zc2 k T _ hr.1 i h'
  have h2:T.data.toList.drop (i+(quoted k).length)=58 :: (ct v++125 :: m):=zaF h'
  obtain⟨_,b2,h3⟩:=zan (T:=T) h2
  obtain⟨c,q,e,c1,c2,c3,c4,_,_⟩:=zfI (zlD v hr.2.1)
  have h3':T.data.toList.drop (i+(quoted k).length+1)=c :: (q++125 :: m):=by rw[h3,e]; simp
  have hv:=zrP v hr.2.1 hs.1 (i+(quoted k).length+1) (125 :: m) h3 (.inr ⟨125,m,rfl,.inr (.inr rfl)⟩)
  have h4:T.data.toList.drop (i+(quoted k).length+1+(ct v).length)=125 :: m:=zaF h3
  obtain⟨_,b4,_⟩:=zan (T:=T) h4
  rw[zhQ,hk]
  simp only[yA]
  rw[zbN h2 (by decide) (by decide) (by decide) (by decide),yg (by rw[b2]; rfl),zbN h3' c1 c2 c3 c4,hv]
  simp only[yA]
  rw[zbN h4 (by decide) (by decide) (by decide) (by decide),yg (by rw[b4]; rfl)]
  have e2:(joinC ((ctM (.cons k v .nil)).map zav)).length=(quoted k).length+1+(ct v).length:=by simp[ctM,joinC,joinT,zav]; omega
  rw[e2]
  simp only[Option.some.injEq,Prod.mk.injEq,true_and]
  omega
 | k,v,.cons k' u r,hr,hs,i,m,h=>by
  rw[rdM] at hr
  rw[srM] at hs
  have h':T.data.toList.drop i=quoted k++(58 :: (ct v++44 :: (joinC ((ctM (.cons k' u r)).map zav)++125 :: m))):=by rw[h]; simp[ctM,joinC,joinT,zav]
  have hk:=zc2 k T _ hr.1 i h'
  have h2:=zaF h'
  obtain⟨_,b2,h3⟩:=zan (T:=T) h2
  obtain⟨c,q,e,c1,c2,c3,c4,_,_⟩:=zfI (zlD v hr.2.1)
  have h3':T.data.toList.drop (i+(quoted k).length+1)=c :: (q++44 :: (joinC ((ctM (.cons k' u r)).map zav)++125 :: m)):=by rw[h3,e]; simp
  have hv:=zrP v hr.2.1 hs.1 (i+(quoted k).length+1) _ h3 (.inr ⟨44,_,rfl,.inl rfl⟩)
  have h4:=zaF h3
  obtain⟨_,b4,h5⟩:=zan (T:=T) h4
  have h5':T.data.toList.drop (i+(quoted k).length+1+(ct v).length+1)=34 :: (qs k'++[34]++58 :: ct u++(joinT ((ctM r).map zav)++125 :: m)):=by rw[h5,ctM,yi,joinC]; simp[zav,quoted]
  rw[zhQ,hk]
  simp only[yA]
  rw[zbN h2 (by decide) (by decide) (by decide) (by decide),yg (by rw[b2]; rfl),zbN h3' c1 c2 c3 c4,hv]
  simp only[yA]
  rw[zbN h4 (by decide) (by decide) (by decide) (by decide),yf (by rw[b4]; decide),yg (by rw[b4]; rfl),zbN h5' (by decide) (by decide) (by decide) (by decide),zuC k' u r hr.2.2 hs.2 _ m h5]
  have e2:(joinC ((ctM (.cons k v (.cons k' u r))).map zav)).length=(quoted k).length+1+(ct v).length+1+(joinC ((ctM (.cons k' u r)).map zav)).length:=by simp[ctM,joinC,joinT,zav]; omega
  rw[e2]
  simp only[Option.map_some,Option.some.injEq,Prod.mk.injEq,true_and]
  omega
termination_by _ v r=>SizeOf.sizeOf v+SizeOf.sizeOf r
decreasing_by all_goals simp_wf; all_goals omega
end
theorem zxB {v:JV} (h:rdV v) (hs:srV v) : zgz (zac (ct v))=some v:=by
 obtain⟨c,r,e,c1,c2,c3,c4,_,_⟩:=zfI (zlD v h)
 have h0:(zac (ct v)).data.toList.drop 0=ct v++[]:=by rw[zad]; simp
 have h1:(zac (ct v)).data.toList.drop 0=c :: r:=by rw[zad]; simpa using e
 unfold zgz
 rw[zbN h1 c1 c2 c3 c4,zrP v h hs 0 [] h0 (.inl rfl)]
 simp only[yA,Nat.zero_add]
 rw[zjT (by rw[zaf]; exact ye _),yg (zaf _).symm]
theorem zrQ:∀ (l acc:List (List UInt8×List UInt8)),l.Pairwise (fun a b=>a.1<=b.1)->(∀ a∈acc,∀ b∈l,a.1<=b.1)->l.foldl (fun acc p=>zeW p acc) acc=l.reverse++acc
 | [],acc,_,_=>rfl
 | p :: l,acc,h,ha=>by
  rw[List.pairwise_cons] at h
  have e:zeW p acc=p :: acc:=by
   cases acc with
   | nil=>rfl
   | cons q r=>rw[zeW,yf (List.not_lt.2 (ha q yp p yp))]
  rw[List.foldl_cons,e,zrQ l (p :: acc) h.2 (fun a hm b hb=>by
   rcases List.mem_cons.1 hm with rfl | hm
   ·exact h.1 b hb
   ·exact ha a hm b (yv _ hb))]
  simp
theorem ztN {l:List (List UInt8×List UInt8)} (h:l.Pairwise (fun a b=>a.1<=b.1)) : zaq l=l:=by
 unfold zaq
 rw[zrQ l [] h (fun a ha=>by simp at ha)]
 simp
theorem zh6 (l:List (List UInt8×List UInt8)) : zaq (zaq l)=zaq l:=ztN (zgJ l)
def JM.ofL:List (List UInt8×JV)->JM
 | []=>.nil
 | (k,v) :: r=>.cons k v (JM.ofL r)
theorem JM.toL_ofL:∀ l:List (List UInt8×JV),(JM.ofL l).toL=l
 | []=>rfl
 | (k,v) :: r=>by rw[JM.ofL,JM.toL,JM.toL_ofL r]
theorem zka:∀ m:JM,rdM m↔∀ q∈m.toL,Lib.validD q.1=true/\rdV q.2
 | .nil=>by rw[rdM]; simp[JM.toL]
 | .cons k v r=>by rw[rdM,zka r,JM.toL]; simp[and_assoc]
theorem zrR:∀ m:JM,srM m↔∀ q∈m.toL,srV q.2
 | .nil=>by rw[srM]; simp[JM.toL]
 | .cons k v r=>by rw[srM,zrR r,JM.toL]; simp
theorem zfJ:∀ m:JM,zds m=true↔∃ q∈m.toL,zbf q.2=true
 | .nil=>by rw[zds]; simp[JM.toL]
 | .cons k v r=>by rw[zds,Bool.or_eq_true,zfJ r,JM.toL]; simp
theorem zh7:∀ (m:JM) (ks:List (List UInt8)),twM ks m=false↔(∀ q∈m.toL,twV q.2=false)/\(m.toL.map (·.1)).Nodup/\∀ q∈m.toL,q.1 ∉ ks
 | .nil,ks=>by rw[twM]; simp[JM.toL]
 | .cons k v r,ks=>by
  rw[twM,JM.toL]
  simp only[Bool.or_eq_false_iff,zh7 r,yi,List.nodup_cons,List.mem_cons,List.contains_eq_mem,decide_eq_false_iff_not,List.mem_append,yO]
  constructor
  ·rintro⟨⟨h1,h2⟩,h3,h4,h5⟩
   refine⟨?_,⟨?_,h4⟩,?_⟩
   ·rintro q (rfl | hq)
    ·exact h1
    ·exact h3 q hq
   ·rintro⟨q,hq,e⟩
    exact h5 q hq (.inr (by simp[e]))
   ·rintro q (rfl | hq)
    ·exact h2
    ·exact fun hk=>h5 q hq (.inl hk)
  ·rintro⟨h1,⟨h2,h3⟩,h4⟩
   refine⟨⟨h1 _ (.inl rfl),h4 _ (.inl rfl)⟩,fun q hq=>h1 q (.inr hq),h3,fun q hq hk=>?_⟩
   rcases hk with hk | hk
   ·exact h4 q (.inr hq) hk
   ·simp only[List.not_mem_nil,or_false] at hk
    exact h2 ⟨q,hq,hk⟩
theorem zlE:∀ (l:List JV) (n:Nat),dl l<=n↔∀ v∈l,zaY v<=n
 | [],n=>by simp[dl]
 | v :: r,n=>by rw[dl,Nat.max_le,zlE r]; simp
theorem ztO {a b:List JV} (h:a.Perm b) : dl a=dl b:=by
 have h1:=(zlE b (dl b)).1 (ye _)
 have h2:=(zlE a (dl a)).1 (ye _)
 exact Nat.le_antisymm ((zlE _ _).2 fun v hv=>h1 v (h.subset hv)) ((zlE _ _).2 fun v hv=>h2 v (h.symm.subset hv))
def zoh (m:JM) : JM:=JM.ofL (zgt m.toL)
theorem zrS (m:JM) : (zoh m).toL.Perm m.toL:=by unfold zoh; rw[JM.toL_ofL]; exact zdP _
theorem zrT (m:JM) : ctM (zoh m)=zaq (ctM m):=by
 have e1:ctM m=m.toL.map kt:=zaK m
 have e2:ctM (zoh m)=(zoh m).toL.map kt:=zaK _
 rw[e1,e2]
 unfold zoh
 rw[JM.toL_ofL,zlw]
theorem zvT {a b:Bool} (h:a=false↔b=false) : a=b:=by
 cases a <;> cases b <;> simp at h <;> rfl
theorem zpw (m:JM) : (rdM m->rdM (zoh m))/\(srM m->srM (zoh m))/\zlV (zoh m)=zlV m/\zgs (zoh m)=zgs m/\zds (zoh m)=zds m/\twM [] (zoh m)=twM [] m:=by
 have p:=zrS m
 refine⟨fun h=>?_,fun h=>?_,?_,?_,?_,?_⟩
 ·rw[zka] at *; exact fun q hq=>h q (p.subset hq)
 ·rw[zrR] at *; exact fun q hq=>h q (p.subset hq)
 ·rw[zdL,zdL]; exact ztO (p.map _)
 ·rw[zdM,zdM]; exact (p.map _).sum_nat
 ·have:zds (zoh m)=true↔zds m=true:=by
   rw[zfJ,zfJ]
   exact⟨fun ⟨q,h1,h2⟩=>⟨q,p.subset h1,h2⟩,fun ⟨q,h1,h2⟩=>⟨q,p.symm.subset h1,h2⟩⟩
  exact Bool.eq_iff_iff.2 this
 ·refine zvT ?_
  rw[zh7,zh7]
  exact⟨fun ⟨h1,h2,h3⟩=>⟨fun q hq=>h1 q (p.symm.subset hq),((p.map _).nodup_iff).1 h2,fun q hq=>h3 q (p.symm.subset hq)⟩,fun ⟨h1,h2,h3⟩=>⟨fun q hq=>h1 q (p.subset hq),((p.map _).nodup_iff).2 h2,fun q hq=>h3 q (p.subset hq)⟩⟩
mutual
def nv:JV->JV
 | .arr l=>.arr (nvL l)
 | .obj m=>.obj (zoh (nvM m))
 | .nul=>.nul
 | .tt=>.tt
 | .ff=>.ff
 | .num l=>.num l
 | .str l=>.str l
def nvL:JL->JL
 | .nil=>.nil
 | .cons v r=>.cons (nv v) (nvL r)
def nvM:JM->JM
 | .nil=>.nil
 | .cons k v r=>.cons k (nv v) (nvM r)
end
structure NF (a b:JV) : Prop where
 ct:ct a=ct b
 rd:rdV b->rdV a
 sr:srV a
 dep:zaY a=zaY b
 cnt:zaA a=zaA b
 big:zbf a=zbf b
 tw:twV a=twV b
theorem NF.leaf {v:JV} (h:srV v) : NF v v:=⟨rfl,id,h,rfl,rfl,rfl,rfl⟩
mutual
theorem zpx:∀ v:JV,NF (nv v) v
 | .nul=>by rw[nv]; exact NF.leaf (by rw[srV]; trivial; all_goals simp)
 | .tt=>by rw[nv]; exact NF.leaf (by rw[srV]; trivial; all_goals simp)
 | .ff=>by rw[nv]; exact NF.leaf (by rw[srV]; trivial; all_goals simp)
 | .num l=>by rw[nv]; exact NF.leaf (by rw[srV]; trivial; all_goals simp)
 | .str l=>by rw[nv]; exact NF.leaf (by rw[srV]; trivial; all_goals simp)
 | .arr l=>by
  obtain⟨h1,h2,h3,h4,h5,h6,h7⟩:=zuD l
  rw[nv]
  exact⟨by rw[Go.Proofs.YtekpghcckdjnhaaGreatDoor.ct,Go.Proofs.YtekpghcckdjnhaaGreatDoor.ct,h1],fun h=>by rw[rdV] at *; exact h2 h,by rw[srV]; exact h3,by rw[zaY,zaY,h4],by rw[zaA,zaA,h5],by rw[zbf,zbf,h6],by rw[twV,twV,h7]⟩
 | .obj m=>by
  obtain⟨h1,h2,h3,h4,h5,h6,h7⟩:=zuE m
  obtain⟨g1,g2,g3,g4,g5,g6⟩:=zpw (nvM m)
  rw[nv]
  exact⟨by rw[Go.Proofs.YtekpghcckdjnhaaGreatDoor.ct,Go.Proofs.YtekpghcckdjnhaaGreatDoor.ct,zrT,zh6,h1],fun h=>by rw[rdV] at *; exact g1 (h2 h),by rw[srV,zrT,zh6]; exact⟨g2 h3,rfl⟩,by rw[zaY,zaY,g3,h4],by rw[zaA,zaA,g4,h5],by rw[zbf,zbf,g5,h6],by rw[twV,twV,g6,h7]⟩
theorem zuD:∀ l:JL,ctL (nvL l)=ctL l/\(rdL l->rdL (nvL l))/\srL (nvL l)/\zn4 (nvL l)=zn4 l/\zhR (nvL l)=zhR l/\zeG (nvL l)=zeG l/\twL (nvL l)=twL l
 | .nil=>by rw[nvL,srL]; exact⟨rfl,id,trivial,rfl,rfl,rfl,rfl⟩
 | .cons v r=>by
  have h:=zpx v
  obtain⟨h1,h2,h3,h4,h5,h6,h7⟩:=zuD r
  rw[nvL]
  exact⟨by rw[ctL,ctL,h.ct,h1],fun q=>by rw[rdL] at *; exact⟨h.rd q.1,h2 q.2⟩,by rw[srL]; exact⟨h.sr,h3⟩,by rw[zn4,zn4,h.dep,h4],by rw[zhR,zhR,h.cnt,h5],by rw[zeG,zeG,h.big,h6],by rw[twL,twL,h.tw,h7]⟩
theorem zuE:∀ m:JM,ctM (nvM m)=ctM m/\(rdM m->rdM (nvM m))/\srM (nvM m)/\zlV (nvM m)=zlV m/\zgs (nvM m)=zgs m/\zds (nvM m)=zds m/\∀ ks,twM ks (nvM m)=twM ks m
 | .nil=>by rw[nvM,srM]; exact⟨rfl,id,trivial,rfl,rfl,rfl,fun _=>rfl⟩
 | .cons k v r=>by
  have h:=zpx v
  obtain⟨h1,h2,h3,h4,h5,h6,h7⟩:=zuE r
  rw[nvM]
  exact⟨by rw[ctM,ctM,h.ct,h1],fun q=>by rw[rdM] at *; exact⟨q.1,h.rd q.2.1,h2 q.2.2⟩,by rw[srM]; exact⟨h.sr,h3⟩,by rw[zlV,zlV,h.dep,h4],by rw[zgs,zgs,h.cnt,h5],by rw[zds,zds,h.big,h6],fun ks=>by rw[twM,twM,h.tw,h7]⟩
end
theorem zuF {v:JV} (h:rdV v) : zgz (zac (ct v))=some (nv v):=by
 have f:=zpx v
 have:=zxB (f.rd h) f.sr
 rwa [f.ct] at this
theorem ztP {v:JV} (h:rdV v) (hb:zbf v=false) (ht:twV v=false) : zaZ (zac (ct v))=if 20000 < (ct v).length then .inl 1 else if 100 < zaY v∨3000 < zaA v then .inl 5 else .inr (nv v):=by
 have f:=zpx v
 unfold zaZ
 rw[zaf,zuF h]
 simp only[f.big,f.tw,f.dep,f.cnt,hb,ht]
 rfl
theorem zvU {s:ByteArray} {i j:Nat} {l:List UInt8} (h:nm s i=some (l,j)) : zxR l:=by
 unfold nm at h
 split at h
 ·rename_i hd
  injection h with h; injection h with h1 h2
  have hlt:nmD s i < s.size:=zaw (by have:=zaH.1 hd; omega)
  have hE:nmD s i < nmE s i:=by
   unfold nmE
   split
   ·omega
   ·rw[ziu hd]
    have:=(ztz (s:=s) (i:=nmD s i+1) (by omega)).1
    omega
  have hall:∀ k,nmD s i<=k->k < nmE s i->zbo (bt s k)=true:=fun k h1 h2=>by
   unfold nmE at h2
   split at h2
   ·have:k=nmD s i:=by omega
    rw[this]; exact hd
   ·exact zus h1 h2
  have hz:bt s (nmD s i)=48->zaX s (nmD s i+1) (nmE s i)=[]:=fun e=>by
   unfold nmE
   rw[yg e]
   unfold zaX
   simp
  have hb:(s.data.toList.getD (nmD s i) 0).toNat=bt s (nmD s i):=rfl
  have hds:∀ b∈zaX s (nmD s i+1) (nmE s i),zbo b.toNat=true:=fun b hb=>by
   obtain⟨k,k1,k2,k3⟩:=zrq hb
   rw[k3]
   exact hall k (by omega) k2
  have hcut:zaX s (nmD s i) (nmE s i)=s.data.toList.getD (nmD s i) 0 :: zaX s (nmD s i+1) (nmE s i):=zhU hE hlt
  by_cases h45:bt s i=45
  ·have e:nmD s i=i+1:=by unfold nmD; rw[yg h45]
   have hraw:zaX s i (nmE s i)=[45]++s.data.toList.getD (nmD s i) 0 :: zaX s (nmD s i+1) (nmE s i):=by
    rw[zhU (by omega) (by omega),← e,hcut]
    have:s.data.toList.getD i 0=45:=UInt8.toNat_inj.1 h45
    rw[this]; rfl
   by_cases h48:bt s (nmD s i)=48
   ·have hl:l=[48]:=by
     rw[← h1,hraw,hz h48]
     have:s.data.toList.getD (nmD s i) 0=48:=UInt8.toNat_inj.1 h48
     rw[this]; rfl
    subst hl
    exact⟨[],[],48,rfl,.inl rfl,rfl,fun b hb=>by simp at hb,fun _=>⟨rfl,rfl⟩⟩
   ·refine⟨[45],_,_,?_,.inr rfl,hd,hds,fun h=>absurd h h48⟩
    rw[← h1,hraw]
    unfold zbM
    rw[yf]
    intro e
    simp only[List.cons_append,List.nil_append,List.cons.injEq,true_and] at e
    exact h48 (by rw[← hb,e.1]; rfl)
  ·have e:nmD s i=i:=by unfold nmD; rw[yf h45]
   refine⟨[],zaX s (nmD s i+1) (nmE s i),s.data.toList.getD (nmD s i) 0,?_,.inl rfl,hd,hds,fun h=>⟨hz h,rfl⟩⟩
   rw[← h1,List.nil_append,← hcut]
   unfold zbM
   rw[yf,e]
   intro e2
   have hcut':=hcut
   rw[e] at hcut'
   rw[hcut'] at e2
   injection e2 with e2 _
   exact h45 (by show (s.data.toList.getD i 0).toNat=45; rw[e2]; rfl)
 ·cases h
theorem znb (s:ByteArray) : ∀ f i,(∀ v j,pv s f i=some (v,j)->rdV v)/\(∀ l j,pa s f i=some (l,j)->rdL l)/\(∀ m j,po s f i=some (m,j)->rdM m)
 | 0,i=>⟨fun v j h=>by simp[pv] at h,fun v j h=>by simp[pa] at h,fun v j h=>by simp[po] at h⟩
 | f+1,i=>by
  refine⟨fun v j h=>?_,fun l j h=>?_,fun m j h=>?_⟩
  ·rw[pv] at h
   split at h
   ·split at h
    ·injection h with h; injection h with hv h; subst hv; rw[rdV,rdL]; trivial
    ·simp only[yz] at h
     obtain⟨⟨l,k⟩,hk,h⟩:=h
     injection h with hv h
     subst hv; rw[rdV]; exact (znb s f (sk s (i+1))).2.1 l k hk
   ·split at h
    ·split at h
     ·injection h with h; injection h with hv h; subst hv; rw[rdV,rdM]; trivial
     ·simp only[yz] at h
      obtain⟨⟨l,k⟩,hk,h⟩:=h
      injection h with hv h
      subst hv; rw[rdV]; exact (znb s f (sk s (i+1))).2.2 l k hk
    ·split at h
     ·simp only[yz] at h
      obtain⟨⟨l,k⟩,hk,h⟩:=h
      injection h with hv h
      subst hv; rw[rdV]; exact zeH hk
     ·split at h
      ·injection h with h; injection h with hv h; subst hv; rw[rdV]; trivial
      ·split at h
       ·injection h with h; injection h with hv h; subst hv; rw[rdV]; trivial
       ·split at h
        ·injection h with h; injection h with hv h; subst hv; rw[rdV]; trivial
        ·simp only[yz] at h
         obtain⟨⟨l,k⟩,hk,h⟩:=h
         injection h with hv h
         subst hv; rw[rdV]; exact zvU hk
  ·rw[pa] at h
   simp only[Option.bind_eq_some_iff] at h
   obtain⟨⟨v,k⟩,hk,h⟩:=h
   have h1:=(znb s f i).1 v k hk
   simp only at h
   split at h
   ·injection h with h; injection h with hv h; subst hv; rw[rdL,rdL]; exact⟨h1,trivial⟩
   ·split at h
    ·simp only[yz] at h
     obtain⟨⟨l,n⟩,hn,h⟩:=h
     injection h with hv h
     subst hv; rw[rdL]; exact⟨h1,(znb s f _).2.1 l n hn⟩
    ·cases h
  ·rw[po] at h
   simp only[Option.bind_eq_some_iff] at h
   obtain⟨⟨key,a⟩,ha,h⟩:=h
   have h0:=zeH ha
   simp only at h
   split at h
   ·simp only[Option.bind_eq_some_iff] at h
    obtain⟨⟨v,k⟩,hk,h⟩:=h
    have h1:=(znb s f _).1 v k hk
    simp only at h
    split at h
    ·injection h with h; injection h with hv h; subst hv; rw[rdM,rdM]; exact⟨h0,h1,trivial⟩
    ·split at h
     ·simp only[yz] at h
      obtain⟨⟨l,n⟩,hn,h⟩:=h
      injection h with hv h
      subst hv; rw[rdM]; exact⟨h0,h1,(znb s f _).2.2 l n hn⟩
     ·cases h
   ·cases h
theorem zvV {s:ByteArray} {i j:Nat} {v:JV} (h:val s i=some (v,j)) : rdV v:=(znb s _ i).1 v j h
theorem zvW {s:ByteArray} {v:JV} (h:zgz s=some v) : rdV v:=by
 unfold zgz at h
 cases hv:val s (sk s 0) with
 | none=>rw[hv] at h; simp at h
 | some q=>
  obtain⟨u,j⟩:=q
  rw[hv] at h
  simp only[yA] at h
  split at h
  ·injection h with h; subst h; exact zvV hv
  ·cases h
theorem zys {c:UInt8} (h:128<=c.toNat) : qB c=[c]:=by
 unfold qB
 rw[yf (by omega),yf (by omega),yf (by omega),yf (by omega),yf (by omega),yf (by omega),yf (by omega)]
theorem zvX:∀ {l:List UInt8},(∀ c∈l,128<=c.toNat)->qs l=l
 | [],_=>rfl
 | c :: r,h=>by
  have h1:=zvX (l:=r) fun x hx=>h x (yv _ hx)
  have h2:=zys (h c yp)
  show qB c++qs r=c :: r
  rw[h1,h2]; rfl
theorem ztQ {x:Int} (h0:128<=x) (h1:x<=255) : 128<=(x.toNat.toUInt8).toNat:=by
 have:(x.toNat.toUInt8).toNat=x.toNat % 256:=rfl
 rw[this]
 omega
theorem zxC {r:Nat} (h:128<=r) (h2:r<=1114111) : (∀ c∈enc r,128<=c.toNat)/\(r<=2047->(enc r).length=2)/\(r<=65535->(enc r).length<=3):=by
 unfold enc Lib.encodeRune
 by_cases a:r<=2047
 ·rw[Lib.encodeRuneZ_two (by omega) (by omega)]
  refine⟨fun c hc=>?_,fun _=>rfl,fun _=>by simp⟩
  simp only[yi,List.map_nil,List.mem_cons,List.not_mem_nil,or_false] at hc
  rcases hc with rfl | rfl <;> exact ztQ (by omega) (by omega)
 ·by_cases b:(2048<=(r:Int)/\(r:Int) < 55296)∨(57343 < (r:Int)/\(r:Int)<=65535)
  ·rw[Lib.encodeRuneZ_three b]
   refine⟨fun c hc=>?_,fun h=>absurd h a,fun _=>by simp⟩
   simp only[yi,List.map_nil,List.mem_cons,List.not_mem_nil,or_false] at hc
   rcases hc with rfl | rfl | rfl <;> exact ztQ (by omega) (by omega)
  ·by_cases d:65536<=r
   ·rw[Lib.encodeRuneZ_four (by omega) (by omega)]
    refine⟨fun c hc=>?_,fun h=>absurd h a,fun h=>by omega⟩
    simp only[yi,List.map_nil,List.mem_cons,List.not_mem_nil,or_false] at hc
    rcases hc with rfl | rfl | rfl | rfl <;> exact ztQ (by omega) (by omega)
   ·have e:Lib.encodeRuneZ (r:Int)=[239,191,189]:=by
     unfold Lib.encodeRuneZ
     rw[yf (by omega),yf (by omega),yf b,yf (by omega)]
    rw[e]
    refine⟨fun c hc=>?_,fun h=>absurd h a,fun _=>by simp⟩
    simp only[yi,List.map_nil,List.mem_cons,List.not_mem_nil,or_false] at hc
    rcases hc with rfl | rfl | rfl <;> exact ztQ (by omega) (by omega)
theorem zvY {r:Nat} (h:r<=1114111) : (qs (enc r)).length<=6/\(65536<=r->(qs (enc r)).length<=12):=by
 by_cases a:r < 128
 ·rw[zrl a]
  have:=zuO (UInt8.ofNat r)
  have e:qs [UInt8.ofNat r]=qB (UInt8.ofNat r):=by simp[qs]
  rw[e]
  omega
 ·obtain⟨h1,_,h3⟩:=zxC (by omega) h
  rw[zvX h1]
  have:=zn3 r
  omega
theorem znc {s:ByteArray} {i r n:Nat} (h:piece s i=some (r,n)) (h34:bt s i≠34) : (qs (enc r)).length<=n:=by
 have hok:=zcW h
 unfold piece at h
 split at h
 ·unfold ziY at h
  split at h
  ·rename_i v hv
   injection h with h; injection h with h1 h2
   subst h1; subst h2
   have hv2:v=34∨v=92∨v=47∨v=8∨v=12∨v=10∨v=13∨v=9:=by
    unfold smp at hv
    repeat' split at hv
    all_goals first | (injection hv with hv; omega) | cases hv
   rcases hv2 with rfl | rfl | rfl | rfl | rfl | rfl | rfl | rfl <;> decide
  ·simp only[Option.bind_eq_some_iff] at h
   obtain⟨u,hu,h⟩:=h
   have hq:=(zvY hok.2.2).1
   unfold zgI at h
   split at h
   ·injection h with h; injection h with h1 h2; omega
   ·split at h
    ·cases h
    ·simp only[Option.bind_eq_some_iff] at h
     obtain⟨v,hv,h⟩:=h
     split at h
     ·injection h with h; injection h with h1 h2; omega
     ·cases h
 ·split at h
  ·cases h
  ·split at h
   ·rename_i h92 h32 h128
    injection h with h; injection h with h1 h2
    subst h1; subst h2
    rw[zrl h128]
    have e:qs [UInt8.ofNat (bt s i)]=qB (UInt8.ofNat (bt s i)):=by simp[qs]
    have et:(UInt8.ofNat (bt s i)).toNat=bt s i:=by rw[UInt8.toNat_ofNat']; omega
    rw[e]
    unfold qB
    rw[et,yf (by omega),yf (by omega),yf (by omega),yf (by omega),yf (by omega),yf (by omega),yf (by omega)]
    simp
   ·split at h
    ·cases h
    ·rename_i h92 h32 h128 hrl
     injection h with h; injection h with h1 h2
     have hi:i < s.size:=zaw (by omega)
     have h8:¬ s[i].toNat < 128:=by rw[← zas s i hi]; exact h128
     obtain⟨m1,m2,_,_⟩:=zcJ s i hi hrl h8
     subst h1; subst h2
     unfold enc
     rw[m1,zvX m2,ym]
     omega
theorem zpy {s:ByteArray} : ∀ {i j:Nat} {l:List UInt8},zfO s i=some (l,j)->(qs l).length+i+1<=j:=by
 intro i
 generalize hn:s.size - i=n
 induction n using Nat.strongRecOn generalizing i with
 | _ n ih=>
  intro j l h
  by_cases h34:bt s i=34
  ·rw[zdH h34] at h
   injection h with h; injection h with h1 h2
   subst h1; simp[qs]; omega
  ·cases hp:piece s i with
   | none=>rw[zdI h34 hp] at h; cases h
   | some p=>
    obtain⟨r,n'⟩:=p
    have hk:=zcW hp
    have he:=znc hp h34
    rw[zee h34 hp] at h
    rcases hq:zfO s (i+n') with _ | ⟨l2,j2⟩
    ·rw[hq] at h; cases h
    ·rw[hq] at h
     injection h with h; injection h with h1 h2
     have:=ih (s.size - (i+n')) (by omega) rfl hq
     subst h1
     show (qs (enc r++l2)).length+i+1<=j
     rw[zpK,yh]
     simp only at h2
     omega
theorem zi5 {s:ByteArray} {i j:Nat} {l:List UInt8} (h:zcM s i=some (l,j)) : (quoted l).length+i<=j:=by
 unfold zcM at h
 split at h
 ·have:=zpy h
  unfold quoted
  simp only[yn,yh,yD]
  omega
 ·cases h
theorem zkb (l:List (List UInt8)) (h:l≠[]) : (joinC l).length+1=(l.map fun t=>t.length+1).sum:=by
 cases l with
 | nil=>exact absurd rfl h
 | cons t r=>
  rw[joinC,yh,zh0,yi,yL]
  omega
theorem zxD (l:List (List UInt8×List UInt8)) (h:l≠[]) : (mkO (zaq l)).length=zbB l+1:=by
 have h1:=(zap l)
 have hne:(zaq l).map zav≠[]:=by
  intro e
  rw[List.map_eq_nil_iff] at e
  rw[e] at h1
  exact h h1.symm.eq_nil
 have h2:=zkb ((zaq l).map zav) hne
 have h3:=zdq l
 unfold zbB at *
 rw[List.map_map] at h2
 unfold mkO
 simp only[yn,yh,yD]
 have h4:((zaq l).map ((fun t=>t.length+1)∘zav)).sum=((zaq l).map fun p=>(zav p).length+1).sum:=rfl
 omega
theorem ze6 (s:ByteArray) : ∀ f i,(∀ v j,pv s f i=some (v,j)->(ct v).length+i<=j)/\(∀ l j,pa s f i=some (l,j)->ctL l≠[]/\((ctL l).map fun t=>t.length+1).sum+i<=j)/\(∀ m j,po s f i=some (m,j)->ctM m≠[]/\zbB (ctM m)+i<=j)
 | 0,i=>⟨fun v j h=>by simp[pv] at h,fun v j h=>by simp[pa] at h,fun v j h=>by simp[po] at h⟩
 | f+1,i=>by
  refine⟨fun v j h=>?_,fun l j h=>?_,fun m j h=>?_⟩
  ·have hok:=(zhO s (f+1) i).1 v j h
   rw[pv] at h
   have g:=zaz s (i+1)
   split at h
   ·split at h
    ·injection h with h; injection h with h0 h
     subst h0
     simp[ct,ctL,mkA,joinC]; omega
    ·simp only[yz] at h
     obtain⟨⟨l,k⟩,hk,h⟩:=h
     injection h with h0 h
     have h1:=(ze6 s f (sk s (i+1))).2.1 l k hk
     have h2:=(zhO s f (sk s (i+1))).2.1 l k hk
     have h3:=zkb (ctL l) h1.1
     have h1:=h1.2
     subst h0
     simp only[ct,mkA,yn,yh,yD]
     simp only at h; omega
   ·split at h
    ·split at h
     ·injection h with h; injection h with h0 h
      subst h0
      simp[ct,ctM,mkO,zaq,joinC]; omega
     ·simp only[yz] at h
      obtain⟨⟨l,k⟩,hk,h⟩:=h
      injection h with h0 h
      have h1:=(ze6 s f (sk s (i+1))).2.2 l k hk
      have h2:=(zhO s f (sk s (i+1))).2.2 l k hk
      have h3:=zxD (ctM l) h1.1
      have h1:=h1.2
      subst h0
      simp only[ct]
      simp only at h; omega
    ·split at h
     ·simp only[yz] at h
      obtain⟨⟨l,k⟩,hk,h⟩:=h
      injection h with h0 h
      have h1:=zi5 hk
      subst h0
      simp only[ct]
      simp only at h; omega
     ·split at h
      ·injection h with h; injection h with h0 h
       subst h0; simp[ct]; omega
      ·split at h
       ·injection h with h; injection h with h0 h
        subst h0; simp[ct]; omega
       ·split at h
        ·injection h with h; injection h with h0 h
         subst h0; simp[ct]; omega
        ·simp only[yz] at h
         obtain⟨⟨l,k⟩,hk,h⟩:=h
         injection h with h0 h
         have h1:=zuv hk
         subst h0
         simp only[ct]
         simp only at h; omega
  ·rw[pa] at h
   simp only[Option.bind_eq_some_iff] at h
   obtain⟨⟨v,k⟩,hk,h⟩:=h
   have h1:=(zhO s f i).1 v k hk
   have h1':=(ze6 s f i).1 v k hk
   have g1:=zaz s k
   simp only at h
   split at h
   ·injection h with h; injection h with h0 h
    subst h0
    refine⟨by simp[ctL],?_⟩
    simp[ctL]; omega
   ·split at h
    ·simp only[yz] at h
     obtain⟨⟨l,n⟩,hn,h⟩:=h
     injection h with h0 h
     have h2:=(zhO s f _).2.1 l n hn
     have h2':=(ze6 s f _).2.1 l n hn
     have g2:=zaz s (sk s k+1)
     subst h0
     refine⟨by simp[ctL],?_⟩
     simp only[ctL,yi,yL]
     simp only at h; omega
    ·cases h
  ·rw[po] at h
   simp only[Option.bind_eq_some_iff] at h
   obtain⟨⟨key,a⟩,ha,h⟩:=h
   have h0:=zce ha
   have h0':=zi5 ha
   simp only at h
   split at h
   ·simp only[Option.bind_eq_some_iff] at h
    obtain⟨⟨v,k⟩,hk,h⟩:=h
    have h1:=(zhO s f _).1 v k hk
    have h1':=(ze6 s f _).1 v k hk
    have g0:=zaz s a
    have g3:=zaz s (sk s a+1)
    have g1:=zaz s k
    simp only at h
    split at h
    ·injection h with h; injection h with h0 h
     subst h0
     refine⟨by simp[ctM],?_⟩
     simp[ctM,zbB,zav]; omega
    ·split at h
     ·simp only[yz] at h
      obtain⟨⟨l,n⟩,hn,h⟩:=h
      injection h with h0 h
      have h2:=(zhO s f _).2.2 l n hn
      have h2':=(ze6 s f _).2.2 l n hn
      have g2:=zaz s (sk s k+1)
      subst h0
      have e:zbB (ctM (.cons key v l))=(zav (key,ct v)).length+1+zbB (ctM l):=by simp[ctM,zbB]
      have e2:(zav (key,ct v)).length=(quoted key).length+1+(ct v).length:=by simp[zav]; omega
      refine⟨by simp[ctM],?_⟩
      simp only at h ⊢
      omega
     ·cases h
   ·cases h
theorem zrU {s:ByteArray} {i j:Nat} {v:JV} (h:val s i=some (v,j)) : (ct v).length+i<=j:=(ze6 s _ i).1 v j h
theorem zrV {s:ByteArray} {v:JV} (h:zgz s=some v) : (ct v).length<=s.size:=by
 unfold zgz at h
 cases hv:val s (sk s 0) with
 | none=>rw[hv] at h; simp at h
 | some q=>
  rw[hv] at h
  simp only[yA] at h
  split at h
  ·rename_i hs
   injection h with h
   subst h
   have h1:=zrU (v:=q.1) (j:=q.2) hv
   have h2:=zaz s q.2
   omega
  ·cases h
theorem zvZ:∀ (k n:Nat),n < 10 ^ (k+1)->(zb5 n).length<=k+1:=by
 intro k
 induction k with
 | zero=>intro n hn; rw[zbZ (by omega)]; simp
 | succ k ih=>
  intro n hn
  by_cases h:n < 10
  ·rw[zbZ h]; simp
  ·rw[zgg h,yh]
   have h1:=ih (n / 10) (by rw[Nat.pow_succ] at hn; omega)
   rw[zbZ (n:=n % 10) (by omega)]
   simp; omega
end Go.Proofs.YtekpghcckdjnhaaGreatDoor
namespace Go.Proofs.YtekpghcckdjnhaaGreatDoor
open Go.RowKit Go.Lib Go.Proofs.Tryz
def dV (c:UInt8) : Nat:=c.toNat - 48
def zaO (a:Nat) (d:List UInt8) : Nat:=d.foldl (fun a c=>a*10+dV c) a
def Dg (d:List UInt8) : Prop:=∀ c∈d,48<=c.toNat/\c.toNat<=57
def Num (d:List UInt8) : Prop:=Dg d/\d≠[]/\(d=[48]∨∀ c r,d=c :: r->49<=c.toNat)
theorem Dg.tail {c:UInt8} {d:List UInt8} (h:Dg (c :: d)) : Dg d:=fun x hx=>h x (yv _ hx)
theorem Dg.head {c:UInt8} {d:List UInt8} (h:Dg (c :: d)) : 48<=c.toNat/\c.toNat<=57:=h c yp
theorem zbP (a:Nat) (c:UInt8) (d:List UInt8) : zaO a (c :: d)=zaO (a*10+dV c) d:=by unfold zaO; rw[List.foldl_cons]
theorem zpz (a:Nat) (d:List UInt8) (c:UInt8) : zaO a (d++[c])=zaO a d*10+dV c:=by unfold zaO; rw[List.foldl_append]; rfl
theorem ztR (d:List UInt8) : ∀ a,a<=zaO a d:=by
 induction d with
 | nil=>intro a; exact ye _
 | cons c d ih=>intro a; rw[zbP]; have:=ih (a*10+dV c); omega
theorem zfK (d:List UInt8) : ∀ a,zaO a d=a*10 ^ d.length+zaO 0 d:=by
 induction d with
 | nil=>intro a; simp[zaO]
 | cons c d ih=>
  intro a
  rw[zbP,zbP,ih (a*10+dV c),ih (0*10+dV c),yn,Nat.pow_succ]
  rw[Nat.add_mul,Nat.zero_mul,Nat.zero_add,Nat.mul_assoc,Nat.mul_comm 10,Nat.add_assoc]
theorem zkc (d:List UInt8) (h:Dg d) : zaO 0 d < 10 ^ d.length:=by
 induction d with
 | nil=>simp[zaO]
 | cons c d ih=>
  rw[zbP,zfK,yn,Nat.pow_succ]
  have h1:=ih h.tail
  have h2:=h.head
  have h3:dV c<=9:=by unfold dV; omega
  have h4:(0*10+dV c)*10 ^ d.length<=9*10 ^ d.length:=Nat.mul_le_mul_right _ (by omega)
  omega
theorem zh8 {c:UInt8} {d:List UInt8} (hc:49<=c.toNat) : 10 ^ d.length<=zaO 0 (c :: d):=by
 rw[zbP,zfK]
 have:1*10 ^ d.length<=(0*10+dV c)*10 ^ d.length:=Nat.mul_le_mul_right _ (by unfold dV; omega)
 omega
theorem zpA (d:List UInt8) (h:Dg d) : ∀ a,a<=18446744073709551615->parseUintM 18446744073709551615 a d=if zaO a d<=18446744073709551615 then .ok (zaO a d) else .range:=by
 induction d with
 | nil=>intro a ha; rw[parseUintM]; rw[yg (by exact ha)]; rfl
 | cons c d ih=>
  intro a ha
  rw[parseUintM,yg h.head,zbP]
  have hg:=ztR d (a*10+dV c)
  have e:a*10+(c.toNat - 48)=a*10+dV c:=rfl
  by_cases h1:1844674407370955162<=a
  ·rw[yg h1,yf (by omega)]
  ·rw[yf h1,e]
   by_cases h2:18446744073709551615 < a*10+dV c
   ·rw[yg h2,yf (by omega)]
   ·rw[yf h2]
    exact ih h.tail _ (by omega)
theorem zlF:∀ (a b:List UInt8),Dg a->Dg b->a.length=b.length->(Op.bytesLess a b=decide (zaO 0 a < zaO 0 b))/\((a == b)=decide (zaO 0 a=zaO 0 b))
 | [],[],_,_,_=>by simp[Op.bytesLess,zaO]
 | [],_ :: _,_,_,h=>by simp at h
 | _ :: _,[],_,_,h=>by simp at h
 | c :: a,x :: b,ha,hb,h=>by
  have hl:a.length=b.length:=by simpa using h
  obtain⟨i1,i2⟩:=zlF a b ha.tail hb.tail hl
  have a1:=zkc a ha.tail
  have b1:=zkc b hb.tail
  have hc:=ha.head
  have hx:=hb.head
  rw[zbP,zbP,zfK a,zfK b,hl]
  rw[hl] at a1
  have ec:0*10+dV c=dV c:=by omega
  have ex:0*10+dV x=dV x:=by omega
  rw[ec,ex]
  generalize zaO 0 a=A at *
  generalize zaO 0 b=B at *
  generalize 10 ^ b.length=P at *
  have hcx:c < x↔dV c < dV x:=by rw[UInt8.lt_iff_toNat_lt]; unfold dV; omega
  have hce:c=x↔dV c=dV x:=by rw[← UInt8.toNat_inj]; unfold dV; omega
  rw[Op.bytesLess]
  by_cases g1:dV c < dV x
  ·have:(dV c+1)*P<=dV x*P:=Nat.mul_le_mul_right _ g1
   rw[Nat.add_mul,Nat.one_mul] at this
   refine⟨?_,?_⟩
   ·rw[yj (hcx.2 g1),Bool.true_or,yj (by omega)]
   ·rw[yk (by omega),yd]
    intro e; injection e with e1 e2; have:=hce.1 e1; omega
  ·by_cases g2:dV c=dV x
   ·have hcq:(c == x)=true:=by rw[yC]; exact hce.2 g2
    rw[yk (fun hh=>g1 (hcx.1 hh)),Bool.false_or,hcq,Bool.true_and,i1,g2]
    refine⟨?_,?_⟩
    ·apply decide_eq_decide.2; omega
    ·rw[hce.2 g2]
     rw[show ((x :: a) == (x :: b))=(a == b) from by simp,i2]
     apply decide_eq_decide.2; omega
   ·have:(dV x+1)*P<=dV c*P:=Nat.mul_le_mul_right _ (by omega)
    rw[Nat.add_mul,Nat.one_mul] at this
    have hcq:(c == x)=false:=by rw[yd]; exact fun e=>g2 (hce.1 e)
    refine⟨?_,?_⟩
    ·rw[yk (fun hh=>g1 (hcx.1 hh)),Bool.false_or,hcq,Bool.false_and,yk (by omega)]
    ·rw[yk (by omega),yd]
     intro e; injection e with e1 e2; exact g2 (hce.1 e1)
theorem Num.bounds {d:List UInt8} (h:Num d) : (d.length<=18->zaO 0 d < 1000000000000000000)/\(20<=d.length->10000000000000000000<=zaO 0 d):=by
 obtain⟨h1,h2,h3⟩:=h
 refine⟨fun hl=>?_,fun hl=>?_⟩
 ·have:=zkc d h1
  have h4:10 ^ d.length<=10 ^ 18:=Nat.pow_le_pow_right (by decide) hl
  have h5:(10:Nat) ^ 18=1000000000000000000:=by decide
  omega
 ·rcases h3 with rfl | h3
  ·simp at hl
  ·cases d with
   | nil=>simp at hl
   | cons c r=>
    have:=zh8 (d:=r) (h3 c r rfl)
    have h4:10 ^ 19<=10 ^ r.length:=Nat.pow_le_pow_right (by decide) (by simp at hl; omega)
    have h5:(10:Nat) ^ 19=10000000000000000000:=by decide
    omega
theorem zoi {d lim:List UInt8} {m:Nat} (h:Num d) (hl:Dg lim) (h19:lim.length=19) (hm:zaO 0 lim=m) (h1:1000000000000000000<=m) (h2:m < 10000000000000000000) : over d lim=decide (m < zaO 0 d):=by
 unfold over
 have hb:=h.bounds
 by_cases hd:d.length=19
 ·rw[yf (by omega)]
  obtain⟨i1,i2⟩:=zlF d lim h.1 hl (by omega)
  rw[i1,i2,hm]
  by_cases g:m < zaO 0 d
  ·rw[yj g,yk (by omega),yk (by omega)]; rfl
  ·rw[yk g]
   by_cases g2:zaO 0 d=m
   ·rw[yj g2]; simp
   ·rw[yj (show zaO 0 d < m by omega)]; rfl
 ·rw[yg hd]
  apply decide_eq_decide.2
  constructor
  ·intro g; have:=hb.2 (by omega); omega
  ·intro g
   rcases Nat.lt_or_ge d.length 19 with g2 | g2
   ·have:=hb.1 (by omega); omega
   ·omega
theorem zxE {d:List UInt8} (h:Num d) : over d zv6=decide (9223372036854775807 < zaO 0 d):=zoi h (by unfold Dg zv6; decide) rfl (by decide) (by decide) (by decide)
theorem zxF {d:List UInt8} (h:Num d) : over d zv7=decide (9223372036854775808 < zaO 0 d):=zoi h (by unfold Dg zv7; decide) rfl (by decide) (by decide) (by decide)
theorem zuG {c:UInt8} (h:48<=c.toNat/\c.toNat<=57) : UInt8.ofNat (48+dV c)=c:=by
 apply UInt8.toNat_inj.1
 rw[UInt8.toNat_ofNat']; unfold dV; omega
theorem ztS (n:Nat) : ∀ d:List UInt8,d.length=n->Num d->decDigits (zaO 0 d)=d:=by
 induction n with
 | zero=>intro d hn h; exact absurd (yN hn) h.2.1
 | succ n ih=>
  intro d hn h
  obtain⟨h1,h2,h3⟩:=h
  rcases List.eq_nil_or_concat d with e | ⟨d',c,e⟩
  ·exact absurd e h2
  ·rw[List.concat_eq_append] at e
   subst e
   have hc:48<=c.toNat/\c.toNat<=57:=h1 c (by simp)
   have hv:dV c<=9:=by unfold dV; omega
   rw[zpz]
   cases d' with
   | nil=>
    show decDigits (0*10+dV c)=[c]
    rw[decDigits_one (by omega),show 48+(0*10+dV c)=48+dV c by omega,zuG hc]
   | cons x r=>
    have hx:49<=x.toNat:=by
     rcases h3 with h3 | h3
     ·simp at h3
     ·exact h3 x (r++[c]) rfl
    have hlow:=zh8 (d:=r) hx
    have hp:0 < 10 ^ r.length:=Nat.pow_pos (by decide)
    have hN:Num (x :: r):=⟨fun y hy=>h1 y (by simp at hy ⊢; rcases hy with hy | hy <;> simp[hy]),by simp,.inr (fun a b e=>by injection e with e1 e2; subst e1; exact hx)⟩
    have:=ih (x :: r) (by simp at hn ⊢; omega) hN
    rw[decDigits,dif_neg (by omega),show (zaO 0 (x :: r)*10+dV c) / 10=zaO 0 (x :: r) by omega,show (zaO 0 (x :: r)*10+dV c) % 10=dV c by omega,this,zuG hc]
theorem zem {s:ByteArray} {i j:Nat} (hi:i < s.size) (hj:i < j) : zaX s i j=s[i] :: zaX s (i+1) j:=by
 unfold zaX
 rw[zax s i hi,show j - i=(j - (i+1))+1 by omega,List.take_succ_cons]
theorem zoj (s:ByteArray) (i:Nat) : zaX s i i=[]:=by unfold zaX; simp
theorem zuH (s:ByteArray) : ∀ n i,s.size - i<=n->Dg (zaX s i (dg s i))
 | n,i,hn=>by
  by_cases h:zbo (bt s i)=true
  ·have hi:i < s.size:=zaw (by have:=zaH.1 h; omega)
   cases n with
   | zero=>omega
   | succ n=>
    have h2:=ztz (s:=s) (i:=i+1) (by omega)
    rw[ziu h,zem hi (by omega)]
    intro c hc
    rcases List.mem_cons.1 hc with rfl | hc
    ·rw[zas s i hi] at h; exact zaH.1 h
    ·exact zuH s n (i+1) (by omega) c hc
  ·rw[zgr h,zoj]; intro c hc; cases hc
theorem zrW {s:ByteArray} {i j:Nat} {l:List UInt8} (h:nm s i=some (l,j)) : j=nmE s i/\Num (zaX s (nmD s i) j)/\zaX s i j=(if bt s i=45 then 45 :: zaX s (nmD s i) j else zaX s (nmD s i) j)/\l=zbM (zaX s i j):=by
 have hk:=zrh h
 unfold nm at h
 split at h
 ·rename_i hd
  injection h with h; injection h with h1 h2
  have hdI:=zaH.1 hd
  have hlt:nmD s i < s.size:=zaw (by omega)
  have hbt:=zas s (nmD s i) hlt
  subst h2
  refine⟨rfl,?_,?_,h1.symm⟩
  ·unfold nmE
   split
   ·rename_i h48
    rw[zem hlt (by omega),zoj]
    have e:s[nmD s i]=48:=UInt8.toNat_inj.1 (by show _=48; omega)
    rw[e]
    exact⟨by unfold Dg; decide,by simp,.inl rfl⟩
   ·rename_i h48
    have h3:=ztz (s:=s) (i:=nmD s i+1) (by omega)
    refine⟨zuH s _ _ (ye _),?_,.inr ?_⟩
    ·rw[ziu hd,zem hlt (by omega)]; simp
    ·intro c r e
     rw[ziu hd,zem hlt (by omega)] at e
     injection e with e1 e2
     subst e1; omega
  ·by_cases h45:bt s i=45
   ·have hi:i < s.size:=zaw (by omega)
    have e:s[i]=45:=UInt8.toNat_inj.1 (by show _=45; rw[← zas s i hi]; exact h45)
    have hD:nmD s i=i+1:=by unfold nmD; rw[yg h45]
    rw[yg h45,zem hi (by omega),e,hD]
   ·have hD:nmD s i=i:=by unfold nmD; rw[yf h45]
    rw[yf h45,hD]
 ·cases h
theorem zrX {d:List UInt8} (h:Num d) : zbM d=d:=by
 unfold zbM
 rw[yf]
 intro e
 have:=h.1 45 (by rw[e]; simp)
 exact absurd this.1 (by decide)
theorem zrY {d:List UInt8} (h:Num d) : parseUintB 64 d=if zaO 0 d<=18446744073709551615 then .ok (zaO 0 d) else .range:=by
 unfold parseUintB
 rw[yf h.2.1]
 exact zpA d h.1 0 (by decide)
theorem ztT {s:ByteArray} {i j:Nat} {l:List UInt8} (h:nm s i=some (l,j)) :
  (zaP l=false->∃ z:Int,parseIntB 64 (zaX s i j) = .ok z/\itoa z=l/\-9223372036854775808<=z/\z<=9223372036854775807)/\(zaP l=true->parseIntB 64 (zaX s i j) = .range):=by
 obtain⟨_,hN,hc,hl⟩:=zrW h
 generalize zaX s (nmD s i) j=d at *
 have hp:=zrY hN
 have hde:=ztS d.length d rfl hN
 have p63:(2:Nat) ^ (64 - 1)=9223372036854775808:=by decide
 by_cases h45:bt s i=45
 ·rw[yg h45] at hc
  rw[hc] at hl ⊢
  rw[parseIntB_minus,hp]
  by_cases h0:d=[48]
  ·subst h0
   have e:l=[48]:=by rw[hl]; unfold zbM; rw[yg rfl]
   subst e
   refine⟨fun _=>⟨0,by decide,by rw[show (0:Int)=((0:Nat) : Int) from rfl,itoa_nonneg,decDigits_one (by decide)]; rfl,by decide,by decide⟩,fun hb=>absurd hb (by decide)⟩
  ·have e:l=45 :: d:=by
    rw[hl]; unfold zbM; rw[yf]
    intro e; injection e with _ e; exact h0 e
   subst e
   have ht:zaP (45 :: d)=decide (9223372036854775808 < zaO 0 d):=by rw[zaP,yg rfl,zxF hN]
   rw[ht]
   have hpos:1<=zaO 0 d:=by
    obtain⟨h1,h2,h3⟩:=hN
    rcases h3 with h3 | h3
    ·exact absurd h3 h0
    ·cases d with
     | nil=>exact absurd rfl h2
     | cons c r=>
      have:=zh8 (d:=r) (h3 c r rfl)
      have hp:0 < 10 ^ r.length:=Nat.pow_pos (by decide)
      omega
   refine⟨fun hb=>?_,fun hb=>?_⟩
   ·have hb':=of_decide_eq_false hb
    rw[yg (by omega)]
    refine⟨-((zaO 0 d:Nat) : Int),?_,?_,by omega,by omega⟩
    ·show (if 2 ^ (64 - 1) < zaO 0 d then NumEnd.range else .ok (-((zaO 0 d:Nat) : Int)))=_
     rw[yf (by omega)]
    ·rw[itoa_neg _ hpos,hde]
   ·have hb':=of_decide_eq_true hb
    by_cases g:zaO 0 d<=18446744073709551615
    ·rw[yg g]
     show (if 2 ^ (64 - 1) < zaO 0 d then NumEnd.range else .ok (-((zaO 0 d:Nat) : Int)))=_
     rw[yg (by omega)]
    ·rw[yf g]; rfl
 ·rw[yf h45] at hc
  rw[hc] at hl ⊢
  rw[zrX hN] at hl
  subst hl
  cases hd:l with
  | nil=>exact absurd hd hN.2.1
  | cons c r=>
   have hcd:=hN.1 c (by rw[hd]; simp)
   rw[parseIntB_plain 64 c r (by omega) (by omega),← hd,hp]
   have ht:zaP l=decide (9223372036854775807 < zaO 0 l):=by
    rw[hd,zaP,yf (by intro e; rw[e] at hcd; exact absurd hcd.1 (by decide)),← hd,zxE hN]
   rw[ht]
   refine⟨fun hb=>?_,fun hb=>?_⟩
   ·have hb':=of_decide_eq_false hb
    rw[yg (by omega)]
    refine⟨((zaO 0 l:Nat) : Int),?_,?_,by omega,by omega⟩
    ·show (if 2 ^ (64 - 1)<=zaO 0 l then NumEnd.range else .ok ((zaO 0 l:Nat) : Int))=_
     rw[yf (by omega)]
    ·rw[itoa_nonneg,hde]
   ·have hb':=of_decide_eq_true hb
    by_cases g:zaO 0 l<=18446744073709551615
    ·rw[yg g]
     show (if 2 ^ (64 - 1)<=zaO 0 l then NumEnd.range else .ok ((zaO 0 l:Nat) : Int))=_
     rw[yg (by omega)]
    ·rw[yf g]; rfl
end Go.Proofs.YtekpghcckdjnhaaGreatDoor
namespace Go.Proofs.YtekpghcckdjnhaaGreatDoor
open Go.RowKit Go.Proofs.Tryz
theorem zkd (b:Nat) (hb:b < 256) (w:World) :
  Calls prog 286 #[.int .u8 b] w fun e w'=>w=w'/\e=(hx b).elim mis (fun v=>.returned (.int .i32 v)):=by
 by_cases h1:48<=b/\b<=57
 ·have HH:Hid (hx b=some (b - 48)):=by show _=_; unfold hx; rw[yg h1]
  have a1:(48:Int)<=(b:Int):=by omega
  have a2:(b:Int)<=57:=by omega
  clear h1
  go_enter func286,ntmps286
  go_wp2
  go_ret
  refine⟨rfl,?_⟩
  rw[uh HH]
  exact zb6 (by go_num)
 ·by_cases h2:97<=b/\b<=102
  ·have HH:Hid (hx b=some (b - 87)):=by show _=_; unfold hx; rw[yf h1,yg h2]
   have a1:(97:Int)<=(b:Int):=by omega
   have a2:(b:Int)<=102:=by omega
   clear h1 h2
   go_enter func286,ntmps286
   go_wp2
   go_ret
   refine⟨rfl,?_⟩
   rw[uh HH]
   exact zb6 (by go_num)
  ·by_cases h3:65<=b/\b<=70
   ·have HH:Hid (hx b=some (b - 55)):=by show _=_; unfold hx; rw[yf h1,yf h2,yg h3]
    have a1:(65:Int)<=(b:Int):=by omega
    have a2:(b:Int)<=70:=by omega
    clear h1 h2 h3
    go_enter func286,ntmps286
    go_wp2
    go_ret
    refine⟨rfl,?_⟩
    rw[uh HH]
    exact zb6 (by go_num)
   ·have HH:Hid (hx b=none):=by show _=_; unfold hx; rw[yf h1,yf h2,yf h3]
    clear HH
    have HH:Hid (hx b=none):=by show _=_; unfold hx; rw[yf h1,yf h2,yf h3]
    rcases (show b < 48∨(57 < b/\b < 65)∨(70 < b/\b < 97)∨102 < b from by omega) with g | g | g | g
    ·have a1:(b:Int) < 48:=by omega
     clear h1 h2 h3 g
     go_enter func286,ntmps286
     go_wp2
     exact⟨rfl,rfl,by rw[uh HH]; rfl⟩
    ·have a1:(57:Int) < (b:Int):=by omega
     have a2:(b:Int) < 65:=by omega
     clear h1 h2 h3 g
     go_enter func286,ntmps286
     go_wp2
     exact⟨rfl,rfl,by rw[uh HH]; rfl⟩
    ·have a1:(70:Int) < (b:Int):=by omega
     have a2:(b:Int) < 97:=by omega
     clear h1 h2 h3 g
     go_enter func286,ntmps286
     go_wp2
     exact⟨rfl,rfl,by rw[uh HH]; rfl⟩
    ·have a1:(102:Int) < (b:Int):=by omega
     clear h1 h2 h3 g
     go_enter func286,ntmps286
     go_wp2
     exact⟨rfl,rfl,by rw[uh HH]; rfl⟩
theorem zh9 (rb:Nat) (s:ByteArray) (i:Nat) (tb kt:Bool) (w:World) (h:Rdr rb s i tb kt w) (hs:s.size<=1048576) (hi:i<=s.size) :
  Calls prog 274 #[.pointer (some ⟨rb,0,none⟩)] w (zpp rb s tb kt w ((zfx s i 4).map fun v:Nat=>(.int .i32 (v:Int),i+4))):=by
 have H:=zab h
 clear h
 go_enter func274,ntmps274
 go_wp2
 go_loopw [3,4] (fun n k wr=>∃ j v:Nat,j<=4/\i+j<=s.size/\v < 16 ^ j/\k = .int .i64 j/\n = .int .i32 v/\zfx s i j=some v/\Rdr rb s (i+j) tb kt wr/\KB rb w wr) (fun _ k _=>4 - (intOf k).toNat)
 case atStart=>exact⟨0,0,by omega,by omega,by decide,rfl,rfl,rfl,uh H,KB.refl _ _⟩
 case round=>
  obtain⟨j,v,hj,hij,hv16,rfl,rfl,hv,hr,hk⟩:=hrel
  have HV:=zab hv
  have HR:=zab hr
  clear hv hr
  by_cases h4:j < 4
  ·have hv65:v < 65536:=by
    have:(16:Nat) ^ j<=16 ^ 3:=Nat.pow_le_pow_right (by decide) (by omega)
    omega
   have h4':(j:Int) < 4:=by omega
   by_cases hin:i+j < s.size
   ·have HN:=zab (zcd rb s (i+j) tb kt wr (uh HR) hs hin)
    have HD:=zab (zkd (bt s (i+j)) (zb1 _ _))
    have hvI:(v:Int) < 65536:=by omega
    cases hx1:hx (bt s (i+j)) with
    | some d=>
     have hd:=zvA hx1
     have HX:=zab (zdl (uh HV) hx1)
     rw[hx1] at HD
     generalize bt s (i+j)=b at *
     clear hx1
     go_wp2_with fail
     refine (uh HN).mono ?_
     rintro e w1 ⟨rfl,r1,k1⟩
     have R1:=zab r1
     clear r1
     go_wp2_with fail
     refine (uh HD _).mono ?_
     rintro e w2 ⟨rfl,rfl⟩
     clear HN HD
     simp only[Option.elim]
     go_wp2
     go_roundw
     case rel=>exact⟨j+1,v*16+d,by omega,by omega,by rw[Nat.pow_succ]; omega,by go_num,by go_num,uh HX,uh R1,hk.trans k1⟩
     case measure=>simp[intOf]; omega
    | none=>
     have HX:Hid (zfx s i 4=none):=zhL (zgH hx1) (by omega)
     rw[hx1] at HD
     generalize bt s (i+j)=b at *
     clear hx1
     go_wp2_with fail
     refine (uh HN).mono ?_
     rintro e w1 ⟨rfl,r1,k1⟩
     clear r1
     go_wp2_with fail
     refine (uh HD _).mono ?_
     rintro e w2 ⟨rfl,rfl⟩
     clear HN HD
     exact⟨rfl,hk.trans k1,by rw[uh HX]; rfl⟩
   ·have HX:Hid (zfx s i 4=none):=zhL (zgH (by rw[zcL s (i+j) (by omega)]; rfl)) (show j+1<=4 by omega)
    have HN:=zab (zjS rb s (i+j) tb kt wr (uh HR) (by omega))
    go_wp2_with fail
    refine (uh HN).mono ?_
    rintro e w1 ⟨rfl,k1⟩
    clear HN
    exact⟨rfl,hk.trans k1,by rw[uh HX]; rfl⟩
  ·have e4:j=4:=by omega
   subst e4
   go_wp2
   go_ret
   exact⟨hk,by rw[uh HV]; exact⟨rfl,uh HR⟩⟩
def zi6 (s:ByteArray) (i:Nat) (wd:ByteArray) : Prop:=∀ k,k < wd.size->bt s (i+k)=bt wd k
theorem zgP (rb:Nat) (s:ByteArray) (i:Nat) (tb kt:Bool) (w:World) (h:Rdr rb s i tb kt w) (hs:s.size<=1048576) (wd:ByteArray) (hw:wd.size<=1000) (hi:i+wd.size<=s.size) (hit:zi6 s i wd) :
  Calls prog 174 #[.pointer (some ⟨rb,0,none⟩),.string wd] w fun e w'=>e = .returned (.tuple #[])/\Rdr rb s (i+wd.size) tb kt w'/\KB rb w w':=by
 have H:=zab h
 have HIT:=zab hit
 clear h hit
 go_enter func174,ntmps174
 go_wp2
 go_loopw [7] (fun k wr=>∃ j:Nat,j<=wd.size/\k = .int .i64 j/\Rdr rb s (i+j) tb kt wr/\KB rb w wr) (fun k _=>wd.size - (intOf k).toNat)
 case atStart=>exact⟨0,by omega,rfl,uh H,KB.refl _ _⟩
 case round=>
  obtain⟨j,hj,rfl,hr,hk⟩:=hrel
  have HR:=zab hr
  clear hr
  by_cases hlt:j < wd.size
  ·have e1:=(uh HIT) j hlt
   have HE:Hid (Calls prog 205 #[.pointer (some ⟨rb,0,none⟩),.int .u8 (wd[j].toNat:Int)] wr fun e w'=>e = .returned (.tuple #[])/\Rdr rb s (i+j+1) tb kt w'/\KB rb wr w'):=
    zbO rb s (i+j) tb kt wr (uh HR) hs wd[j].toNat (by rw[e1,zas wd j hlt]) (by omega)
   clear e1
   go_wp2_with fail
   refine (uh HE).mono ?_
   rintro e w1 ⟨rfl,r1,k1⟩
   have R1:=zab r1
   clear r1 HE
   go_wp2
   go_roundw
   case rel=>exact⟨j+1,by omega,by go_num,uh R1,hk.trans k1⟩
   case measure=>simp[intOf]; omega
  ·have e4:j=wd.size:=by omega
   subst e4
   go_wp2
   go_end0
   exact⟨rfl,uh HR,hk⟩
theorem zke (rb:Nat) (s:ByteArray) (i:Nat) (tb kt:Bool) (w:World) (h:Rdr rb s i tb kt w) (hs:s.size<=1048576) (wd:ByteArray) (hw:wd.size<=1000) (hz:∀ k,k < wd.size->bt wd k≠0) (hi:i<=s.size) (hit:¬ zi6 s i wd) :
  Calls prog 174 #[.pointer (some ⟨rb,0,none⟩),.string wd] w fun e w'=>e=mis/\KB rb w w':=by
 have H:=zab h
 have HIT:=zab hit
 have HZ:=zab hz
 clear h hit hz
 go_enter func174,ntmps174
 go_wp2
 go_loopw [7] (fun k wr=>∃ j:Nat,j<=wd.size/\i+j<=s.size/\k = .int .i64 j/\(∀ m,m < j->bt s (i+m)=bt wd m)/\Rdr rb s (i+j) tb kt wr/\KB rb w wr) (fun k _=>wd.size - (intOf k).toNat)
 case atStart=>exact⟨0,by omega,hi,rfl,by omega,uh H,KB.refl _ _⟩
 case round=>
  obtain⟨j,hj,hij,rfl,hm,hr,hk⟩:=hrel
  have HR:=zab hr
  have HM:=zab hm
  clear hr hm
  by_cases hlt:j < wd.size
  ·by_cases e1:bt s (i+j)=bt wd j
   ·have hin:i+j < s.size:=zaw (by rw[e1]; exact (uh HZ) j hlt)
    have HE:Hid (Calls prog 205 #[.pointer (some ⟨rb,0,none⟩),.int .u8 (wd[j].toNat:Int)] wr fun e w'=>e = .returned (.tuple #[])/\Rdr rb s (i+j+1) tb kt w'/\KB rb wr w'):=
     zbO rb s (i+j) tb kt wr (uh HR) hs wd[j].toNat (by rw[e1,zas wd j hlt]) hin
    have HM1:Hid (∀ m,m < j+1->bt s (i+m)=bt wd m):=fun m hm=>by
     rcases Nat.lt_or_ge m j with g | g
     ·exact (uh HM) m g
     ·have:m=j:=by omega
      subst this; exact e1
    clear e1
    go_wp2_with fail
    refine (uh HE).mono ?_
    rintro e w1 ⟨rfl,r1,k1⟩
    have R1:=zab r1
    clear r1 HE
    go_wp2
    go_roundw
    case rel=>exact⟨j+1,by omega,by omega,by go_num,uh HM1,uh R1,hk.trans k1⟩
    case measure=>simp[intOf]; omega
   ·have HE:Hid (Calls prog 205 #[.pointer (some ⟨rb,0,none⟩),.int .u8 (wd[j].toNat:Int)] wr fun e w'=>e=mis/\KB rb wr w'):=
     zec rb s (i+j) tb kt wr (uh HR) hs hij wd[j].toNat (.inl (by rw[zas wd j hlt] at e1; exact e1))
    clear e1
    go_wp2_with fail
    refine (uh HE).mono ?_
    rintro e w1 ⟨rfl,k1⟩
    clear HE
    exact⟨rfl,rfl,hk.trans k1⟩
  ·exfalso
   refine (uh HIT) fun k hk'=>(uh HM) k (by omega)
theorem zok (s:ByteArray) (i:Nat) : zi6 s i ⟨#[92,117]⟩↔bt s i=92/\bt s (i+1)=117:=by
 constructor
 ·intro h
  exact⟨h 0 (by decide),h 1 (by decide)⟩
 ·rintro⟨h0,h1⟩ k hk
  have:k < 2:=hk
  match k,this with
  | 0,_=>exact h0
  | 1,_=>exact h1
theorem zlG (rb:Nat) (s:ByteArray) (i:Nat) (tb kt:Bool) (w:World) (h:Rdr rb s (i+2) tb kt w) (hs:s.size<=1048576) (hi:i+2<=s.size) :
  Calls prog 256 #[.pointer (some ⟨rb,0,none⟩)] w (zpp rb s tb kt w (((zfx s (i+2) 4).bind (zgI s i)).map fun p=>(.int .i32 (p.1:Int),i+p.2))):=by
 have HX:=zab (zh9 rb s (i+2) tb kt w h hs hi)
 clear h
 cases hx1:zfx s (i+2) 4 with
 | none=>
  rw[hx1] at HX
  clear hx1
  go_enter func256,ntmps256
  go_wp2_with fail
  refine (uh HX).mono ?_
  rintro e w1 ⟨k1,rfl⟩
  clear HX
  exact⟨rfl,k1,rfl⟩
 | some u=>
  have hu:u < 65536:=zjU s (i+2) 4 u hx1
  have hin:=zrc hx1
  rw[hx1] at HX
  clear hx1
  simp only[yA]
  by_cases h1:u < 55296∨57344<=u
  ·have HE:Hid (zgI s i u=some (u,6)):=by show _=_; unfold zgI; rw[yg h1]
   rcases h1 with h1 | h1
   ·have a1:(u:Int) < 55296:=by omega
    go_enter func256,ntmps256
    go_wp2_with fail
    refine (uh HX).mono ?_
    rintro e w1 ⟨k1,rfl,r1⟩
    have R1:=zab r1
    clear HX r1
    go_wp2
    go_ret
    exact⟨k1,by rw[uh HE]; exact⟨rfl,uh R1⟩⟩
   ·have a1:¬ (u:Int) < 55296:=by omega
    have a2:(57343:Int) < (u:Int):=by omega
    have d1:decide ((u:Int) < 55296)=false:=by simp; omega
    go_enter func256,ntmps256
    go_wp2_with fail
    refine (uh HX).mono ?_
    rintro e w1 ⟨k1,rfl,r1⟩
    have R1:=zab r1
    clear HX r1
    go_wp2
    go_ret
    exact⟨k1,by rw[uh HE]; exact⟨rfl,uh R1⟩⟩
  ·have a1:¬ (u:Int) < 55296:=by omega
   have a2:¬ (57343:Int) < (u:Int):=by omega
   by_cases h2:56320<=u
   ·have HE:Hid (zgI s i u=none):=by show _=_; unfold zgI; rw[yf h1,yg h2]
    have a3:(56319:Int) < (u:Int):=by omega
    clear h1
    go_enter func256,ntmps256
    go_wp2_with fail
    refine (uh HX).mono ?_
    rintro e w1 ⟨k1,rfl,r1⟩
    clear HX r1
    go_wp2
    exact⟨rfl,k1,by rw[uh HE]; rfl⟩
   ·have a3:¬ (56319:Int) < (u:Int):=by omega
    have U12:Hid ((55296:Int)<=(u:Int)/\(u:Int)<=56319):=by show _/\_; omega
    by_cases hw:bt s (i+6)=92/\bt s (i+6+1)=117
    ·have hw':=(zok s (i+6)).2 hw
     have hin7:i+6+1 < s.size:=zaw (by rw[hw.2]; decide)
     have HW:Hid (∀ w,Rdr rb s (i+6) tb kt w->Calls prog 174 #[.pointer (some ⟨rb,0,none⟩),.string ⟨#[92,117]⟩] w fun e w'=>e = .returned (.tuple #[])/\Rdr rb s (i+6+2) tb kt w'/\KB rb w w'):=
      fun w h=>zgP rb s (i+6) tb kt w h hs ⟨#[92,117]⟩ (by decide) (by show i+6+2<=_; omega) hw'
     have HX2:Hid (∀ w,Rdr rb s (i+6+2) tb kt w->Calls prog 274 #[.pointer (some ⟨rb,0,none⟩)] w (zpp rb s tb kt w ((zfx s (i+6+2) 4).map fun v:Nat=>(.int .i32 (v:Int),i+6+2+4)))):=
      fun w h=>zh9 rb s (i+6+2) tb kt w h hs (by omega)
     have eU:zed s (i+6)=zfx s (i+6+2) 4:=by unfold zed; rw[yg hw]
     clear hw hw'
     cases hx2:zfx s (i+6+2) 4 with
     | none=>
      have HE:Hid (zgI s i u=none):=by show _=_; unfold zgI; rw[yf h1,yf h2,eU,hx2]; rfl
      rw[hx2] at HX2
      clear hx2 eU h1 h2
      go_enter func256,ntmps256
      go_wp2_with fail
      refine (uh HX).mono ?_
      rintro e w1 ⟨k1,rfl,r1⟩
      have R1:=zab r1
      clear HX r1
      go_wp2_with fail
      refine (uh HW _ (uh R1)).mono ?_
      rintro e w2 ⟨rfl,r2,k2⟩
      have R2:=zab r2
      clear HW r2
      go_wp2_with fail
      refine (uh HX2 _ (uh R2)).mono ?_
      rintro e w3 ⟨k3,rfl⟩
      clear HX2
      exact⟨rfl,(k1.trans k2).trans k3,by rw[uh HE]; rfl⟩
     | some v=>
      have hv:v < 65536:=zjU s (i+6+2) 4 v hx2
      rw[hx2] at HX2
      by_cases h3:56320<=v/\v < 57344
      ·have HE:Hid (zgI s i u=some (65536+(u - 55296)*1024+(v - 56320),12)):=by
        show _=_; unfold zgI; rw[yf h1,yf h2,eU,hx2]; simp only[yA]; rw[yg h3]
       have v1:(56320:Int)<=(v:Int):=by omega
       have v2:(v:Int)<=57343:=by omega
       have v3:¬ (v:Int) < 56320:=by omega
       have v4:¬ (57343:Int) < (v:Int):=by omega
       clear hx2 eU h1 h2 h3
       go_enter func256,ntmps256
       go_wp2_with fail
       refine (uh HX).mono ?_
       rintro e w1 ⟨k1,rfl,r1⟩
       have R1:=zab r1
       clear HX r1
       go_wp2_with fail
       refine (uh HW _ (uh R1)).mono ?_
       rintro e w2 ⟨rfl,r2,k2⟩
       have R2:=zab r2
       clear HW r2
       go_wp2_with fail
       refine (uh HX2 _ (uh R2)).mono ?_
       rintro e w3 ⟨k3,rfl,r3⟩
       have R3:=zab r3
       clear HX2 r3
       obtain⟨u1,u2⟩:=uh U12
       go_wp2
       go_ret
       refine⟨(k1.trans k2).trans k3,?_⟩
       rw[uh HE]
       exact⟨zb6 (by omega),uh R3⟩
      ·have HE:Hid (zgI s i u=none):=by
        show _=_; unfold zgI; rw[yf h1,yf h2,eU,hx2]; simp only[yA]; rw[yf h3]
       rcases (show v < 56320∨57344<=v from by omega) with h4 | h4
       ·have v1:(v:Int)<=56319:=by omega
        clear hx2 eU h1 h2 h3 h4
        go_enter func256,ntmps256
        go_wp2_with fail
        refine (uh HX).mono ?_
        rintro e w1 ⟨k1,rfl,r1⟩
        have R1:=zab r1
        clear HX r1
        go_wp2_with fail
        refine (uh HW _ (uh R1)).mono ?_
        rintro e w2 ⟨rfl,r2,k2⟩
        have R2:=zab r2
        clear HW r2
        go_wp2_with fail
        refine (uh HX2 _ (uh R2)).mono ?_
        rintro e w3 ⟨k3,rfl,r3⟩
        clear HX2 r3
        go_wp2
        exact⟨rfl,(k1.trans k2).trans k3,by rw[uh HE]; rfl⟩
       ·have v1:¬ (v:Int) < 56320:=by omega
        have v2:(57343:Int) < (v:Int):=by omega
        clear hx2 eU h1 h2 h3
        go_enter func256,ntmps256
        go_wp2_with fail
        refine (uh HX).mono ?_
        rintro e w1 ⟨k1,rfl,r1⟩
        have R1:=zab r1
        clear HX r1
        go_wp2_with fail
        refine (uh HW _ (uh R1)).mono ?_
        rintro e w2 ⟨rfl,r2,k2⟩
        have R2:=zab r2
        clear HW r2
        go_wp2_with fail
        refine (uh HX2 _ (uh R2)).mono ?_
        rintro e w3 ⟨k3,rfl,r3⟩
        clear HX2 r3
        go_wp2
        exact⟨rfl,(k1.trans k2).trans k3,by rw[uh HE]; rfl⟩
    ·have HE:Hid (zgI s i u=none):=by
      show _=_; unfold zgI; rw[yf h1,yf h2]; unfold zed; rw[yf hw]; rfl
     have HW:Hid (∀ w,Rdr rb s (i+6) tb kt w->Calls prog 174 #[.pointer (some ⟨rb,0,none⟩),.string ⟨#[92,117]⟩] w fun e w'=>e=mis/\KB rb w w'):=
      fun w h=>zke rb s (i+6) tb kt w h hs ⟨#[92,117]⟩ (by decide) (fun k hk=>by
       have:k < 2:=hk
       match k,this with
       | 0,_=>decide
       | 1,_=>decide) (by omega) (fun h=>hw ((zok s (i+6)).1 h))
     clear h1 h2 hw
     go_enter func256,ntmps256
     go_wp2_with fail
     refine (uh HX).mono ?_
     rintro e w1 ⟨k1,rfl,r1⟩
     have R1:=zab r1
     clear HX r1
     go_wp2_with fail
     refine (uh HW _ (uh R1)).mono ?_
     rintro e w2 ⟨rfl,k2⟩
     clear HW
     exact⟨rfl,k1.trans k2,by rw[uh HE]; rfl⟩
theorem zxG (rb:Nat) (s:ByteArray) (i:Nat) (tb kt:Bool) (w:World) (h:Rdr rb s (i+1) tb kt w) (hs:s.size<=1048576) (hb:bt s (i+1)=34) :
  Calls prog 233 #[.pointer (some ⟨rb,0,none⟩)] w fun e w'=>e = .returned (.int .i32 34)/\Rdr rb s (i+2) tb kt w'/\KB rb w w':=by
 have HN:=zab (zcd rb s (i+1) tb kt w h hs (zaw (by rw[hb]; decide)))
 rw[hb] at HN
 clear h hb
 go_enter func233,ntmps233
 go_wp2_with fail
 refine (uh HN).mono ?_
 rintro e w1 ⟨rfl,r1,k1⟩
 have R1:=zab r1
 clear HN r1
 go_wp2
 go_ret
 exact⟨rfl,uh R1,k1⟩
theorem zxH (rb:Nat) (s:ByteArray) (i:Nat) (tb kt:Bool) (w:World) (h:Rdr rb s (i+1) tb kt w) (hs:s.size<=1048576) (hb:bt s (i+1)=92) :
  Calls prog 233 #[.pointer (some ⟨rb,0,none⟩)] w fun e w'=>e = .returned (.int .i32 92)/\Rdr rb s (i+2) tb kt w'/\KB rb w w':=by
 have HN:=zab (zcd rb s (i+1) tb kt w h hs (zaw (by rw[hb]; decide)))
 rw[hb] at HN
 clear h hb
 go_enter func233,ntmps233
 go_wp2_with fail
 refine (uh HN).mono ?_
 rintro e w1 ⟨rfl,r1,k1⟩
 have R1:=zab r1
 clear HN r1
 go_wp2
 go_ret
 exact⟨rfl,uh R1,k1⟩
theorem zxI (rb:Nat) (s:ByteArray) (i:Nat) (tb kt:Bool) (w:World) (h:Rdr rb s (i+1) tb kt w) (hs:s.size<=1048576) (hb:bt s (i+1)=47) :
  Calls prog 233 #[.pointer (some ⟨rb,0,none⟩)] w fun e w'=>e = .returned (.int .i32 47)/\Rdr rb s (i+2) tb kt w'/\KB rb w w':=by
 have HN:=zab (zcd rb s (i+1) tb kt w h hs (zaw (by rw[hb]; decide)))
 rw[hb] at HN
 clear h hb
 go_enter func233,ntmps233
 go_wp2_with fail
 refine (uh HN).mono ?_
 rintro e w1 ⟨rfl,r1,k1⟩
 have R1:=zab r1
 clear HN r1
 go_wp2
 go_ret
 exact⟨rfl,uh R1,k1⟩
theorem zxJ (rb:Nat) (s:ByteArray) (i:Nat) (tb kt:Bool) (w:World) (h:Rdr rb s (i+1) tb kt w) (hs:s.size<=1048576) (hb:bt s (i+1)=98) :
  Calls prog 233 #[.pointer (some ⟨rb,0,none⟩)] w fun e w'=>e = .returned (.int .i32 8)/\Rdr rb s (i+2) tb kt w'/\KB rb w w':=by
 have HN:=zab (zcd rb s (i+1) tb kt w h hs (zaw (by rw[hb]; decide)))
 rw[hb] at HN
 clear h hb
 go_enter func233,ntmps233
 go_wp2_with fail
 refine (uh HN).mono ?_
 rintro e w1 ⟨rfl,r1,k1⟩
 have R1:=zab r1
 clear HN r1
 go_wp2
 go_ret
 exact⟨rfl,uh R1,k1⟩
theorem zv0 (rb:Nat) (s:ByteArray) (i:Nat) (tb kt:Bool) (w:World) (h:Rdr rb s (i+1) tb kt w) (hs:s.size<=1048576) (hb:bt s (i+1)=102) :
  Calls prog 233 #[.pointer (some ⟨rb,0,none⟩)] w fun e w'=>e = .returned (.int .i32 12)/\Rdr rb s (i+2) tb kt w'/\KB rb w w':=by
 have HN:=zab (zcd rb s (i+1) tb kt w h hs (zaw (by rw[hb]; decide)))
 rw[hb] at HN
 clear h hb
 go_enter func233,ntmps233
 go_wp2_with fail
 refine (uh HN).mono ?_
 rintro e w1 ⟨rfl,r1,k1⟩
 have R1:=zab r1
 clear HN r1
 go_wp2
 go_ret
 exact⟨rfl,uh R1,k1⟩
theorem zv1 (rb:Nat) (s:ByteArray) (i:Nat) (tb kt:Bool) (w:World) (h:Rdr rb s (i+1) tb kt w) (hs:s.size<=1048576) (hb:bt s (i+1)=110) :
  Calls prog 233 #[.pointer (some ⟨rb,0,none⟩)] w fun e w'=>e = .returned (.int .i32 10)/\Rdr rb s (i+2) tb kt w'/\KB rb w w':=by
 have HN:=zab (zcd rb s (i+1) tb kt w h hs (zaw (by rw[hb]; decide)))
 rw[hb] at HN
 clear h hb
 go_enter func233,ntmps233
 go_wp2_with fail
 refine (uh HN).mono ?_
 rintro e w1 ⟨rfl,r1,k1⟩
 have R1:=zab r1
 clear HN r1
 go_wp2
 go_ret
 exact⟨rfl,uh R1,k1⟩
theorem zv2 (rb:Nat) (s:ByteArray) (i:Nat) (tb kt:Bool) (w:World) (h:Rdr rb s (i+1) tb kt w) (hs:s.size<=1048576) (hb:bt s (i+1)=114) :
  Calls prog 233 #[.pointer (some ⟨rb,0,none⟩)] w fun e w'=>e = .returned (.int .i32 13)/\Rdr rb s (i+2) tb kt w'/\KB rb w w':=by
 have HN:=zab (zcd rb s (i+1) tb kt w h hs (zaw (by rw[hb]; decide)))
 rw[hb] at HN
 clear h hb
 go_enter func233,ntmps233
 go_wp2_with fail
 refine (uh HN).mono ?_
 rintro e w1 ⟨rfl,r1,k1⟩
 have R1:=zab r1
 clear HN r1
 go_wp2
 go_ret
 exact⟨rfl,uh R1,k1⟩
theorem zv3 (rb:Nat) (s:ByteArray) (i:Nat) (tb kt:Bool) (w:World) (h:Rdr rb s (i+1) tb kt w) (hs:s.size<=1048576) (hb:bt s (i+1)=116) :
  Calls prog 233 #[.pointer (some ⟨rb,0,none⟩)] w fun e w'=>e = .returned (.int .i32 9)/\Rdr rb s (i+2) tb kt w'/\KB rb w w':=by
 have HN:=zab (zcd rb s (i+1) tb kt w h hs (zaw (by rw[hb]; decide)))
 rw[hb] at HN
 clear h hb
 go_enter func233,ntmps233
 go_wp2_with fail
 refine (uh HN).mono ?_
 rintro e w1 ⟨rfl,r1,k1⟩
 have R1:=zab r1
 clear HN r1
 go_wp2
 go_ret
 exact⟨rfl,uh R1,k1⟩
theorem zyt (rb:Nat) (s:ByteArray) (i:Nat) (tb kt:Bool) (w:World) (h:Rdr rb s (i+1) tb kt w) (hs:s.size<=1048576) (hi:i+2<=s.size) (h0:bt s i=92) (hb:bt s (i+1)=117) :
  Calls prog 233 #[.pointer (some ⟨rb,0,none⟩)] w (zpp rb s tb kt w ((ziY s i).map fun p=>(.int .i32 (p.1:Int),i+p.2))):=by
 have HN:=zab (zcd rb s (i+1) tb kt w h hs (zaw (by rw[hb]; decide)))
 rw[zuq h0 hb]
 rw[hb] at HN
 have HX:Hid (∀ w,Rdr rb s (i+2) tb kt w->Calls prog 256 #[.pointer (some ⟨rb,0,none⟩)] w (zpp rb s tb kt w (((zfx s (i+2) 4).bind (zgI s i)).map fun p=>(.int .i32 (p.1:Int),i+p.2)))):=fun w h=>zlG rb s i tb kt w h hs hi
 clear h hb h0
 generalize (zfx s (i+2) 4).bind (zgI s i)=o at *
 cases o with
 | none=>
  go_enter func233,ntmps233
  go_wp2_with fail
  refine (uh HN).mono ?_
  rintro e w1 ⟨rfl,r1,k1⟩
  have R1:=zab r1
  clear HN r1
  go_wp2_with fail
  refine (uh HX _ (uh R1)).mono ?_
  rintro e w2 ⟨k2,rfl⟩
  clear HX
  exact⟨rfl,k1.trans k2,rfl⟩
 | some p=>
  go_enter func233,ntmps233
  go_wp2_with fail
  refine (uh HN).mono ?_
  rintro e w1 ⟨rfl,r1,k1⟩
  have R1:=zab r1
  clear HN r1
  go_wp2_with fail
  refine (uh HX _ (uh R1)).mono ?_
  rintro e w2 ⟨k2,rfl,r2⟩
  have R2:=zab r2
  clear HX r2
  go_wp2
  go_ret
  exact⟨k1.trans k2,rfl,uh R2⟩
theorem zv4 (rb:Nat) (s:ByteArray) (i:Nat) (tb kt:Bool) (w:World) (h:Rdr rb s (i+1) tb kt w) (hi:i+1=s.size) :
  Calls prog 233 #[.pointer (some ⟨rb,0,none⟩)] w fun e w'=>e=mis/\KB rb w w':=by
 have HN:=zab (zjS rb s (i+1) tb kt w h hi)
 clear h hi
 go_enter func233,ntmps233
 go_wp2_with fail
 refine (uh HN).mono ?_
 rintro e w1 ⟨rfl,k1⟩
 clear HN
 exact⟨rfl,rfl,k1⟩
theorem zxK (rb:Nat) (s:ByteArray) (i:Nat) (tb kt:Bool) (w:World) (h:Rdr rb s (i+1) tb kt w) (hs:s.size<=1048576) (hi:i+1 < s.size) (b:Nat) (hb:bt s (i+1)=b) (n34:b≠34) (n92:b≠92) (n47:b≠47) (n98:b≠98) (n102:b≠102) (n110:b≠110) (n114:b≠114) (n116:b≠116) (n117:b≠117) :
  Calls prog 233 #[.pointer (some ⟨rb,0,none⟩)] w fun e w'=>e=mis/\KB rb w w':=by
 have HN:=zab (zcd rb s (i+1) tb kt w h hs hi)
 rw[hb] at HN
 have t34:((b:Int) == 34)=false:=by rw[yd]; omega
 have t92:((b:Int) == 92)=false:=by rw[yd]; omega
 have t47:((b:Int) == 47)=false:=by rw[yd]; omega
 have t98:((b:Int) == 98)=false:=by rw[yd]; omega
 have t102:((b:Int) == 102)=false:=by rw[yd]; omega
 have t110:((b:Int) == 110)=false:=by rw[yd]; omega
 have t114:((b:Int) == 114)=false:=by rw[yd]; omega
 have t116:((b:Int) == 116)=false:=by rw[yd]; omega
 have t117:((b:Int) == 117)=false:=by rw[yd]; omega
 clear h hb n34 n92 n47 n98 n102 n110 n114 n116 n117
 go_enter func233,ntmps233
 go_wp2_with fail
 refine (uh HN).mono ?_
 rintro e w1 ⟨rfl,r1,k1⟩
 clear HN r1
 go_wp2
 exact⟨rfl,rfl,k1⟩
theorem ztU {b:Nat} (n34:b≠34) (n92:b≠92) (n47:b≠47) (n98:b≠98) (n102:b≠102) (n110:b≠110) (n114:b≠114) (n116:b≠116) : smp b=none:=by
 unfold smp; rw[yf n34,yf n92,yf n47,yf n98,yf n102,yf n110,yf n114,yf n116]
theorem zbH {rb:Nat} {s:ByteArray} {tb kt:Bool} {w:World} {o:Option (Value×Nat)} {v:Value} {j:Nat} {e:Ending} {w':World} (ho:o=some (v,j)) (h:e = .returned v/\Rdr rb s j tb kt w'/\KB rb w w') : zpp rb s tb kt w o e w':=by
 subst ho; exact⟨h.2.2,h.1,h.2.1⟩
theorem zen {rb:Nat} {s:ByteArray} {tb kt:Bool} {w:World} {o:Option (Value×Nat)} {e:Ending} {w':World} (ho:o=none) (h:e=mis/\KB rb w w') : zpp rb s tb kt w o e w':=by
 subst ho; exact⟨h.2,h.1⟩
theorem znd (rb:Nat) (s:ByteArray) (i:Nat) (tb kt:Bool) (w:World) (h:Rdr rb s (i+1) tb kt w) (hs:s.size<=1048576) (hi:i+1<=s.size) (h0:bt s i=92) :
  Calls prog 233 #[.pointer (some ⟨rb,0,none⟩)] w (zpp rb s tb kt w ((ziY s i).map fun p=>(.int .i32 (p.1:Int),i+p.2))):=by
 by_cases hend:i+1=s.size
 ·have hz:bt s (i+1)=0:=zcL s (i+1) (by omega)
  exact (zv4 rb s i tb kt w h hend).mono fun e w' hh=>zen (by rw[zrg hz (by rfl) (by decide)]; rfl) hh
 by_cases n34:bt s (i+1)=34
 ·exact (zxG rb s i tb kt w h hs n34).mono fun e w' hh=>zbH (by rw[zeU n34 (by rfl)]; rfl) hh
 by_cases n92:bt s (i+1)=92
 ·exact (zxH rb s i tb kt w h hs n92).mono fun e w' hh=>zbH (by rw[zeU n92 (by rfl)]; rfl) hh
 by_cases n47:bt s (i+1)=47
 ·exact (zxI rb s i tb kt w h hs n47).mono fun e w' hh=>zbH (by rw[zeU n47 (by rfl)]; rfl) hh
 by_cases n98:bt s (i+1)=98
 ·exact (zxJ rb s i tb kt w h hs n98).mono fun e w' hh=>zbH (by rw[zeU n98 (by rfl)]; rfl) hh
 by_cases n102:bt s (i+1)=102
 ·exact (zv0 rb s i tb kt w h hs n102).mono fun e w' hh=>zbH (by rw[zeU n102 (by rfl)]; rfl) hh
 by_cases n110:bt s (i+1)=110
 ·exact (zv1 rb s i tb kt w h hs n110).mono fun e w' hh=>zbH (by rw[zeU n110 (by rfl)]; rfl) hh
 by_cases n114:bt s (i+1)=114
 ·exact (zv2 rb s i tb kt w h hs n114).mono fun e w' hh=>zbH (by rw[zeU n114 (by rfl)]; rfl) hh
 by_cases n116:bt s (i+1)=116
 ·exact (zv3 rb s i tb kt w h hs n116).mono fun e w' hh=>zbH (by rw[zeU n116 (by rfl)]; rfl) hh
 by_cases n117:bt s (i+1)=117
 ·exact zyt rb s i tb kt w h hs (by omega) h0 n117
 exact (zxK rb s i tb kt w h hs (by omega) _ rfl n34 n92 n47 n98 n102 n110 n114 n116 n117).mono fun e w' hh=>zen (by rw[zrg rfl (ztU n34 n92 n47 n98 n102 n110 n114 n116) n117]; rfl) hh
end Go.Proofs.YtekpghcckdjnhaaGreatDoor
