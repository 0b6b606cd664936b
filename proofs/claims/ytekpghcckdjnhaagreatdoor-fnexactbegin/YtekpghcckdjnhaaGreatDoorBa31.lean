import Derived.Test.YtekpghcckdjnhaaGreatDoorBa29
import Derived.Test.YtekpghcckdjnhaaGreatDoorBa30
import Derived.Stop.Asserts
import Derived.Test.YtekpghcckdjnhaaGreatDoorBa8
set_option maxRecDepth 100000
set_option maxHeartbeats 8000000
namespace Go.Proofs.YtekpghcckdjnhaaGreatDoor
open Go.RowKit Go.Sort Go.Proofs.Tryz
theorem zvc {w:World} {b n:Nat} {xs:List (List UInt8×Value)} (h:w.ownsMap prog 9 RH b n (zao xs)) (key:List UInt8) (hk:key.length<=10000000) (v:Value) (hv:zeL xs key=some v) :
  (Instr.lookup 226 (.map (some b)) (.string (zac key)) false).run prog w = .ok v w:=by
 obtain⟨es,clock,hb,F,_,hD⟩:=h
 have hkey:keyOf prog 9 (.string (zac key))=some (.string key):=by
  have:=WideMaps.keyOf_string_mk underlying9 (s:=zac key) (by rw[zaf]; unfold maxLen; omega)
  rwa [zad] at this
 have hz:(zeroValue 66).run prog w = .ok .nilIface w:=by kernel_rfl
 have hat:=fun z=>zda key z xs
 rw[hD] at hat
 rcases Maps.fit_look false (Maps.string_keyed underlying9) underlying226 hz hb F hkey with ⟨hrun,_,h2⟩ | ⟨e0,y,_,_,hrun,hR,h2,_⟩
 ·have e1:=(h2 (.held .nilIface)).symm.trans (hat (.held .nilIface))
  have e2:=(h2 (.held (.bool true))).symm.trans (hat (.held (.bool true)))
  rw[hv] at e1 e2
  exact absurd (e1.trans e2.symm) (by intro e; injection e with e; cases e)
 ·injection hR with hR
  subst hR
  have e1:=(h2 (.held .nilIface)).symm.trans (hat (.held .nilIface))
  rw[hv] at e1
  injection e1 with e1
  subst e1
  exact hrun
theorem zcr {w:World} {S:Nat->Prop} : ∀ (m:JM) (xs:List (List UInt8×Value)),zcm w S m xs->xs.map (·.1)=zcu m/\∀ k v,(k,v)∈m.toL->∃ x,(k,x)∈xs/\Rep w S v x
 | .nil,xs,h=>by rw[zcm] at h; subst h; exact⟨rfl,fun k v h=>by simp[JM.toL] at h⟩
 | .cons k v r,xs,h=>by
  rw[zcm] at h
  obtain⟨x,xs',rfl,h2,h3⟩:=h
  obtain⟨i1,i2⟩:=zcr r xs' h3
  refine⟨by simp[zcu,i1],fun k' v' hm=>?_⟩
  rcases List.mem_cons.1 hm with e | hm
  ·injection e with e1 e2
   subst e1; subst e2
   exact⟨x,yp,h2⟩
  ·obtain⟨x',hx,hr⟩:=i2 k' v' hm
   exact⟨x',yv _ hx,hr⟩
theorem zdC {k:List UInt8} {x:Value} : ∀ xs:List (List UInt8×Value),(xs.map (·.1)).Nodup->(k,x)∈xs->zeL xs k=some x:=by
 refine zdw (fun _ h=>by simp at h) ?_
 rintro l ⟨k',x'⟩ ih hnd hm
 rw[zfU]
 rw[yw,List.nodup_append] at hnd
 rcases List.mem_append.1 hm with hm | hm
 ·have hne:¬ k'=k:=fun e=>by
   subst e
   exact hnd.2.2 k' (yO.2 ⟨_,hm,rfl⟩) k' (by simp) rfl
  rw[yf hne]
  exact ih hnd.1 hm
 ·simp at hm
  rw[yg hm.1.symm,hm.2]
theorem zcc (x:List UInt8) : ∀ xs:List (List UInt8×Value),Maps.has (zao xs) (.string x)=(xs.map (·.1)).contains x:=by
 refine zdw rfl ?_
 rintro l ⟨k,v⟩ ih
 rw[zbh]
 by_cases h:x=k
 ·subst h
  rw[Maps.has_put_same (zfV l) (show WideAt.IsKeyLit (.string x) from trivial)]
  simp
 ·rw[Maps.has_put_other (by intro e; injection e with e; exact h e),ih]
  simp only[yw,yi,List.map_nil]
  rw[Bool.eq_iff_iff]
  simp
  intro e; exact absurd e h
theorem zdg {w:World} {b n:Nat} {xs:List (List UInt8×Value)} (h:w.ownsMap prog 9 RH b n (zao xs)) (hnd:(xs.map (·.1)).Nodup) : (xs.map (·.1)).Perm (strKeys (zao xs)):=by
 obtain⟨es,he,hp,_⟩:=h.entries (Maps.string_keyed underlying9)
 obtain⟨es',he',hk⟩:=World.ownsMap.keysOf h
 rw[he] at he'
 injection he' with he'
 subst he'
 have hm:∀ x,x∈xs.map (·.1)↔Maps.has (.map es) (.string x)=true:=fun x=>by rw[← he,zcc]; simp
 rw[he]
 refine perm_strKeys hp (fun p hp'=>?_) hnd hm
 obtain⟨key,hkey⟩:=hk p hp'
 obtain⟨x,_,hx,_⟩:=Maps.keyOf_str underlying9 hkey
 exact⟨x,hx⟩
theorem zdh {xs:List (List UInt8×Value)} {ks:List (List UInt8)} (h:ks.Perm (strKeys (zao xs))) : Maps.size (zao xs)=ks.length:=by
 obtain⟨es,he⟩:=zfV xs
 rw[he] at h ⊢
 have:=h.length_eq
 simp[strKeys] at this
 rw[this]; rfl
theorem zsS {w w':World} {B b n:Nat} {v:Value} {xs:List Value} (h:w.ownsRow B 9 1 v n xs) (hb:b < B) (hk:OK5 b w w') : w'.ownsRow B 9 1 v n xs:=by
 refine⟨h.1,?_⟩
 rcases h.2 with h0 | ⟨g,cap,cur,hv,hB,hg,r⟩
 ·exact .inl h0
 ·exact .inr ⟨g,cap,cur,hv,hB,hk g _ hg (by intro e; injection e with e; omega) (fun c fz e=>by injection e with _ e; cases e),r⟩
theorem zqA (m:JM) (hall:∀ q∈m.toL,zdR q.2) (hval:∀ q∈m.toL,Lib.validD q.1=true) (hnd:(zcu m).Nodup) : zdR (.obj m):=by
 intro B b l0 w S t p h hS hI hB hP hlen
 rw[Rep] at h
 obtain⟨ob,mb,nn,xs,h,hSob,hSmb,hob,hown,_,hrm⟩:=h
 injection h with h1 h2; subst h1; subst h2
 obtain⟨hkeys,hrep⟩:=zcr m xs hrm
 have hnd':(xs.map (·.1)).Nodup:=by rw[hkeys]; exact hnd
 have hperm:=zdg hown hnd'
 have hct:ct (.obj m)=123 :: (joinC ((zaq (ctM m)).map zav)++[125]):=rfl
 have hpl:(zaq (ctM m)).length=xs.length:=by
  have a1:=congrArg List.length hkeys
  have a2:=congrArg List.length (zfy m)
  simp only[yl] at a1 a2
  rw[(zap _).length_eq]; omega
 have hn:=zkK ((zaq (ctM m)).map zav)
 rw[yl] at hn
 have hjt:l0.length+(joinC ((zaq (ctM m)).map zav)).length+2<=10000000:=by rw[hct] at hlen; simp at hlen; omega
 have hxn:xs.length<=10000000:=by omega
 have hobB:ob < B:=hS _ hSob
 have hbB:B<=b:=hI.elim (fun x=>x.1) (fun x=>x.1)
 have hblt:b < w.heap.size:=hI.lt
 have hc0:w.cell? ⟨ob,0,none⟩=some (.map (some mb)):=by rw[yF hob]; rfl
 have hsz:Maps.size (zao xs)=xs.length:=by rw[zdh hperm,yl]
 have HSK:Hid (∀ w1,Below B w w1->Calls prog 323 #[.pointer (some ⟨ob,0,none⟩)] w1 fun e w'=>∃ v,e = .returned v/\w'.ownsRow w1.heap.size 9 1 v xs.length (((zaq (ctM m)).map (·.1)).map encStr)/\Below w1.heap.size w1 w'):=fun w1 hb1=>by
  have hc1:w1.cell? ⟨ob,0,none⟩=some (.map (some mb)):=(hb1.cell (p:=⟨ob,0,none⟩) hobB).trans hc0
  refine (zhm ob mb nn (zao xs) RH w1 hc1 (za1 hown (hb1.block mb (hS _ hSmb))) (by rw[hsz]; unfold maxLen; omega) (by rw[hsz]; omega)).mono ?_
  rintro e w' ⟨v,ss,rfl,hss,hrow,_,hb⟩
  have hks:ss.Perm ((ctM m).map (·.1)):=by
   rw[zfy,← hkeys]; exact hss.trans hperm.symm
  have hl:ss.length=xs.length:=by rw[hks.length_eq,zfy,← hkeys,yl]
  rw[zps hks,hl] at hrow
  exact⟨v,rfl,hrow,hb⟩
 have HMEM:Hid (∀ k,(hk:k < (zaq (ctM m)).length)->Lib.validD (zaq (ctM m))[k].1=true/\∃ t p f,zxM t p f/\(∀ X:World,Below B w X->(zaq (ctM m))[k].1.length<=10000000->(Instr.lookup 226 (.map (some mb)) (.string (zac (zaq (ctM m))[k].1)) false).run prog X = .ok (.iface t p) X) /\
   ∀ (acc:List UInt8) (wr:World),IsB B b acc wr->Below B w wr->acc.length+(zaq (ctM m))[k].2.length<=10000000->Calls prog f #[p,.pointer (some ⟨b,0,none⟩)] wr fun e w'=>e = .returned (.tuple #[])/\IsB B b (acc++(zaq (ctM m))[k].2) w'/\Below B wr w'/\OK5 b wr w'):=by
  intro k hk
  have hmem:(zaq (ctM m))[k]∈ctM m:=(zap _).subset (yr hk)
  obtain⟨q,hq,he⟩ : ∃ q∈m.toL,(q.1,ct q.2)=(zaq (ctM m))[k]:=by
   have h2:=zaK m
   generalize (zaq (ctM m))[k]=z at *
   rw[h2] at hmem
   exact yO.1 hmem
  have e1:(zaq (ctM m))[k].1=q.1:=by rw[← he]
  have e2:(zaq (ctM m))[k].2=ct q.2:=by rw[← he]
  rw[e1,e2]
  obtain⟨x,hx,hr⟩:=hrep q.1 q.2 hq
  obtain⟨t,p,rfl⟩:=za8 hr
  have hlast:=zdC xs hnd' hx
  refine⟨hval q hq,t,p,wf q.2,zxY hr,fun X hX hkl=>?_,fun acc wr hI' hb' hl'=>?_⟩
  ·exact zvc (za1 hown (hX.block mb (hS _ hSmb))) q.1 hkl _ hlast
  ·exact hall q hq B b acc wr S t p (Rep.keep (fun k hk=>hb'.block k (hS k hk)) (fun _ h=>h) _ _ hr) hS hI' (yP hB hb'.size) (hP.next hb' (ye _)) hl'
 have hl0:(Lib.byteCells l0).length<=10000000:=by rw[yK]; omega
 have HCT:=zab hct
 generalize zaq (ctM m)=ps at *
 have HJ:Hid (∀ k (hk:k < ps.length),joinC ((ps.map zav).take (k+1))=joinC ((ps.map zav).take k)++(if k=0 then zav ps[k] else 44 :: zav ps[k])):=fun k hk=>by
  have:=zkJ (ps.map zav) k (by rw[yl]; exact hk)
  rw[this]; simp
 have HJL:Hid (∀ k,(joinC ((ps.map zav).take k)).length<=(joinC (ps.map zav)).length):=znJ (ps.map zav)
 have HE:Hid ((ps.map zav).take xs.length=ps.map zav):=yq (by rw[yl]; omega)
 have HW1:Hid (∀ (acc:List UInt8) (c:Int) (c':UInt8) (wr:World),c=(c'.toNat:Int)->acc.length<=10000000->IsB B b acc wr->B<=wr.heap.size->Calls prog 180 #[.pointer (some ⟨b,0,none⟩),.int .u8 c] wr fun e w'=>e = .returned .nilIface/\IsB B b (acc++[c']) w'/\Below B wr w'/\OK5 b wr w'):=fun acc c c' wr hc ha hI' hB'=>by
  refine (zb8 B b _ c wr hI' (by rw[yK]; omega) hB').mono ?_
  rintro e w' ⟨rfl,h1,b1,k1⟩
  exact⟨rfl,IsB.byte hc h1,b1,k1⟩
 have HWS:Hid (∀ (acc:List UInt8) (key:List UInt8) (wr:World),Lib.validD key=true->acc.length+(quoted key).length<=10000000->IsB B b acc wr->B<=wr.heap.size->Calls prog 325 #[.string (zac key),.pointer (some ⟨b,0,none⟩)] wr fun e w'=>e = .returned (.tuple #[])/\IsB B b (acc++quoted key) w'/\Below B wr w'/\OK5 b wr w'):=fun acc key wr hv ha hI' hB'=>by
  have hq:=zcO key
  refine (zdz B b acc (zac key) wr hI' hB' (by omega) (by rw[zaf]; omega)).mono ?_
  rintro e w' ⟨rfl,h1,b1,k1⟩
  have e:quoted key=34 :: (rs (zac key)++[34]):=by rw[zu0 (zac key) (by rw[zad]; exact hv),zad]; rfl
  exact⟨rfl,by rw[e]; exact h1,b1,k1⟩
 have HW0:=zab (uh HW1 l0 123 123 w rfl (by omega) hI hB)
 have HB:=zab hB
 have HC0:Hid (∀ X:World,Below B w X->X.cell? ⟨ob,0,none⟩=some (.map (some mb))):=fun X hX=>(hX.cell (p:=⟨ob,0,none⟩) hobB).trans hc0
 clear hown hrm hrep hkeys hnd' hperm hS hP hob hct hall hval hnd hlen hn hI hB hSob hSmb hsz hc0 hobB
 show Calls prog 324 _ _ _
 go_enter func324,ntmps324
 go_wp2_with fail
 refine (uh HW0).mono ?_
 rintro e w1 ⟨rfl,i1,b1,k1⟩
 have HSK1:=zab (uh HSK w1 b1)
 have I1:=zab i1
 have B1:=zab b1
 have K1:=zab k1
 have hw1:=b1.size
 clear HW0 i1 b1 k1 HSK
 go_wp2_with fail
 refine (uh HSK1).mono ?_
 rintro e w2 ⟨v2,rfl,hrow,b2⟩
 have hw2:=b2.size
 have I2:=zab (znI (uh I1) b2)
 have B2:=zab ((uh B1).trans (b2.mono (yP (uh HB) hw1)))
 have K2:=zab (Lib.OthersKept.below (uh K1) b2)
 obtain⟨a2,g2,c2,rfl,hadr,hcell⟩ : ∃ a g c,v2 = .slice a xs.length c/\(0 < xs.length->a=some ⟨g,0,none⟩)/\(∀ (wr:World),OK5 b w2 wr->∀ j (hj:j < ps.length),wr.cell? ⟨g,j,none⟩=some (.string (zac ps[j].1))):=by
  rcases hrow.2 with ⟨hv,h0⟩ | ⟨g,cap,cur,hv,_⟩
  ·exact⟨none,0,0,by rw[hv,h0],fun h=>by omega,fun wr hk j hj=>by omega⟩
  ·refine⟨some ⟨g,0,none⟩,g,cap,hv,fun _=>rfl,fun wr hk j hj=>?_⟩
   subst hv
   have:=(zsS hrow (by omega) hk).cellAt j (by omega)
   rw[this]
   simp[hj]
   rfl
 have HCELL:=zab hcell
 clear hcell hrow HSK1 I1 B1 K1
 go_wp2_with fail
 go_loopw [11] (fun i wr=>∃ k:Nat,k<=xs.length/\i = .int .i64 k/\IsB B b (l0++123 :: joinC ((ps.map zav).take k)) wr/\Below B w wr/\OK5 b w2 wr) (fun i _=>xs.length - (intOf i).toNat)
 case atStart=>exact⟨0,yt _,rfl,by have:=uh I2; simpa [joinC] using this,uh B2,Lib.OthersKept.refl _ _ _⟩
 case round=>
  obtain⟨k,hk,rfl,hI,hb,hok⟩:=hrel
  have hBr:B<=wr.heap.size:=yP (uh HB) hb.size
  by_cases hlt:k < xs.length
  ·have hltp:k < ps.length:=by omega
   have hltI:(k:Int) < (xs.length:Int):=by omega
   obtain rfl:=hadr (by omega)
   have hck:=uh HCELL wr hok k hltp
   obtain⟨hkv,t,p,f,hw,hlook,hcall⟩:=uh HMEM k hltp
   have HJk:=zab (uh HJ k hltp)
   have hj1:=uh HJL (k+1)
   rw[uh HJk] at hj1
   have hj0:=uh HJL k
   have hmp:=zi1 ps[k]
   have HMT:Hid (zav ps[k]=quoted ps[k].1++58 :: ps[k].2):=rfl
   have hqg:=zcO ps[k].1
   generalize joinC ((ps.map zav).take k)=jk at *
   generalize ps[k].1=key at *
   generalize ps[k].2=txt at *
   generalize zav ps[k]=mt at *
   have hmet:=hw.meth
   have hen:=hw.ent
   have HOK:=zab hok
   have HBW:=zab hb
   have HLOOK:=zab hlook
   have HCALL:=zab hcall
   clear hw hlook hcall hok hb HCELL HJ HJL HMEM
   by_cases hk0:k=0
   ·rw[yg hk0] at HJk hj1
    have tk:(0 < k)=False:=yQ (by omega)
    have hj2:jk.length+mt.length<=(joinC (ps.map zav)).length:=by simpa using hj1
    have HS:=zab (uh HWS (l0++123 :: jk) key wr hkv (by simp; omega) hI hBr)
    clear hk0 hI hj1
    go_wp2_with fail
    refine (uh HS).mono ?_
    rintro e w3 ⟨rfl,i3,b3,k3⟩
    have B3:=zab ((uh HBW).trans b3)
    have K3:=zab ((uh HOK).trans k3)
    have HC:=zab (uh HW1 _ 58 58 w3 rfl (by simp; omega) i3 (yP hBr b3.size))
    clear HS i3 b3 k3 hck
    go_wp2_with fail
    refine (uh HC).mono ?_
    rintro e w4 ⟨rfl,i4,b4,k4⟩
    have B4:=zab ((uh B3).trans b4)
    have K4:=zab ((uh K3).trans k4)
    have hlk:=uh HLOOK w4 (uh B4) (by omega)
    have hcm:=uh HC0 w4 (uh B4)
    have HCA:=zab (uh HCALL _ w4 i4 (uh B4) (by simp; omega))
    clear HC i4 b4 k4 HLOOK HCALL B3 K3
    go_wp2_with fail
    refine (uh HCA).mono ?_
    rintro e w5 ⟨rfl,i5,b5,k5⟩
    clear HCA hlk hcm hmet hen
    go_wp2
    go_roundw
    case rel=>exact⟨k+1,by omega,by go_num,by rw[uh HJk,uh HMT]; simpa using i5,(uh B4).trans b5,(uh K4).trans k5⟩
    case measure=>simp[intOf]; omega
   ·rw[yf hk0] at HJk hj1
    have tk:(0 < k)=True:=eq_true (by omega)
    have hj2:jk.length+1+mt.length<=(joinC (ps.map zav)).length:=by simp at hj1; omega
    have HCM:=zab (uh HW1 (l0++123 :: jk) 44 44 wr rfl (by simp; omega) hI hBr)
    clear hk0 hI hj1
    go_wp2_with fail
    refine (uh HCM).mono ?_
    rintro e w2' ⟨rfl,i2',b2',k2'⟩
    have B2':=zab ((uh HBW).trans b2')
    have K2':=zab ((uh HOK).trans k2')
    have HS:=zab (uh HWS _ key w2' hkv (by simp; omega) i2' (yP hBr b2'.size))
    have hBr2:=yP hBr b2'.size
    clear HCM i2' b2' k2' hck
    go_wp2_with fail
    refine (uh HS).mono ?_
    rintro e w3 ⟨rfl,i3,b3,k3⟩
    have B3:=zab ((uh B2').trans b3)
    have K3:=zab ((uh K2').trans k3)
    have HC:=zab (uh HW1 _ 58 58 w3 rfl (by simp; omega) i3 (yP hBr2 b3.size))
    clear HS i3 b3 k3 B2' K2'
    go_wp2_with fail
    refine (uh HC).mono ?_
    rintro e w4 ⟨rfl,i4,b4,k4⟩
    have B4:=zab ((uh B3).trans b4)
    have K4:=zab ((uh K3).trans k4)
    have hlk:=uh HLOOK w4 (uh B4) (by omega)
    have hcm:=uh HC0 w4 (uh B4)
    have HCA:=zab (uh HCALL _ w4 i4 (uh B4) (by simp; omega))
    clear HC i4 b4 k4 HLOOK HCALL B3 K3
    go_wp2_with fail
    refine (uh HCA).mono ?_
    rintro e w5 ⟨rfl,i5,b5,k5⟩
    clear HCA hlk hcm hmet hen
    go_wp2
    go_roundw
    case rel=>exact⟨k+1,by omega,by go_num,by rw[uh HJk,uh HMT]; simpa using i5,(uh B4).trans b5,(uh K4).trans k5⟩
    case measure=>simp[intOf]; omega
  ·have hk':k=xs.length:=by omega
   subst hk'
   rw[uh HE] at hI
   have HWE:=zab (uh HW1 (l0++123 :: joinC (ps.map zav)) 125 125 wr rfl (by simp; omega) hI hBr)
   have HB':=zab hb
   have HOK:=zab hok
   clear hI hb hok HMEM HJ HJL HCELL HW1 HWS
   go_wp2_with fail
   refine (uh HWE).mono ?_
   rintro e w3 ⟨rfl,i3,b3,k3⟩
   go_wp2
   go_end0
   exact⟨rfl,by rw[uh HCT]; simpa using i3,(uh HB').trans b3,(uh K2).trans ((uh HOK).trans k3)⟩
mutual
theorem zqB:∀ v:JV,okV v->twV v=false->zdR v
 | .nul,_,_=>zqv
 | .tt,_,_=>zsP
 | .ff,_,_=>zsQ
 | .num l,_,_=>zqw l
 | .str l,h,_=>zqx l (by rw[okV] at h; exact h)
 | .arr l,h,t=>zqy l (zt8 l (by rw[okV] at h; exact h) (by rw[twV] at t; exact t))
 | .obj m,h,t=>zqA m (zt9 m [] (by rw[okV] at h; exact h) (by rw[twV] at t; exact t)) (zju m (by rw[okV] at h; exact h)) (zei m [] (by rw[twV] at t; exact t)).1
theorem zt8:∀ l:JL,okL l->twL l=false->∀ v∈l.toL,zdR v
 | .nil,_,_,v,hv=>by simp[JL.toL] at hv
 | .cons x r,h,t,v,hv=>by
  rw[okL] at h
  rw[twL,Bool.or_eq_false_iff] at t
  rw[JL.toL] at hv
  rcases List.mem_cons.1 hv with e | hv
  ·rw[e]; exact zqB x h.1 t.1
  ·exact zt8 r h.2 t.2 v hv
theorem zt9:∀ (m:JM) (ks:List (List UInt8)),okM m->twM ks m=false->∀ q∈m.toL,zdR q.2
 | .nil,_,_,_,q,hq=>by simp[JM.toL] at hq
 | .cons k x r,ks,h,t,q,hq=>by
  rw[okM] at h
  rw[twM] at t
  simp only[Bool.or_eq_false_iff] at t
  rw[JM.toL] at hq
  rcases List.mem_cons.1 hq with e | hq
  ·rw[e]; exact zqB x h.2.1 t.1.1
  ·exact zt9 r (ks++[k]) h.2.2 t.2 q hq
theorem zju:∀ m:JM,okM m->∀ q∈m.toL,Lib.validD q.1=true
 | .nil,_,q,hq=>by simp[JM.toL] at hq
 | .cons k x r,h,q,hq=>by
  rw[okM] at h
  rw[JM.toL] at hq
  rcases List.mem_cons.1 hq with e | hq
  ·rw[e]; exact h.1
  ·exact zju r h.2.2 q hq
end
theorem zcj (v:JV) (hok:okV v) (htw:twV v=false) (t:TypeId) (p:Value) (w:World) (S:Nat->Prop) (h:Rep w S v (.iface t p)) (hS:∀ k,S k->k < w.heap.size) (hP:zjs w.heap.size w) (hl:(ct v).length<=10000000) :
  Calls prog 100 #[.iface t p] w fun e w'=>e = .returned (.string (zac (ct v)))/\Below w.heap.size w w':=by
 have hA:=zxY h
 have b0:Below w.heap.size w (w.alloc (.cells #[.pointer none,.slice none 0 0] 192)):=(yH _ _).alloc (ye _) _
 have HC:=zab (zqB v hok htw w.heap.size w.heap.size [] (w.alloc (.cells #[.pointer none,.slice none 0 0] 192)) S t p (Rep.keep (fun k hk=>b0.block k (hS k hk)) (fun _ h=>h) _ _ h) hS (Lib.fresh_isBuilder _ _ w) (by simp) (hP.next b0 (ye _)) (by simpa using hl))
 rw[List.nil_append] at HC
 have hm:=hA.meth
 have hen:=hA.ent
 clear h hS hP hA hok htw
 generalize wf v=f at *
 generalize ct v=cv at *
 go_enter func100,ntmps100
 go_wp2_with fail
 refine (uh HC).mono ?_
 rintro e w1 ⟨rfl,h1,b1,_⟩
 have B1:Below w.heap.size w w1:=b0.trans b1
 have hw1:=B1.size
 have HS:=zab (zfa w.heap.size w.heap.size cv w1 h1 hw1)
 clear h1 b1 HC b0 hm hen
 go_wp2_with fail
 refine (uh HS).mono ?_
 rintro e w2 ⟨rfl,b2⟩
 have B2:=B1.trans b2
 go_wp2
 go_ret
 exact⟨rfl,B2⟩
end Go.Proofs.YtekpghcckdjnhaaGreatDoor
namespace Go.Proofs.YtekpghcckdjnhaaGreatDoor
open Go.RowKit Go.Proofs.Tryz
theorem zkL:∀ n:Nat,Lib.decDigits n=zb5 n:=by
 intro n
 induction n using Nat.strongRecOn with
 | _ n ih=>
  rw[Lib.decDigits]
  split
  ·rename_i h; rw[zbZ h]
  ·rename_i h; rw[zgg h,ih (n / 10) (by omega),zbZ (n:=n % 10) (by omega)]
theorem zmq {tx:TypeId} {vx vy:Value} {b:Bool} (hinfo:(prog.info? tx).map (·.comparable)=some true) (h:∀ (d:Nat) (w:World),(Op.equalIn (d+1) tx vx vy).run prog w = .ok b w) (w:World) :
  (binOp .eql 66 (.iface tx vx) (.iface tx vy)).run prog w = .ok (.bool b) w:=by
 obtain⟨i,hi,hc⟩:=yz.1 hinfo
 have h1:∀ d:Nat,(Op.equalIn (d+1+1) 66 (.iface tx vx) (.iface tx vy)).run prog w = .ok b w:=fun d=>by
  rw[Op.equalIn]
  simp[run_underlying underlying66,typeInfo,hi,hc,h d]
 simp only[binOp]
 simp[Op.equal,Op.maxDepth,h1 9998]
theorem zwl (z z':Int) (w:World) : (binOp .eql 66 (.iface 296 (.int .i64 z)) (.iface 296 (.int .i64 z'))).run prog w = .ok (.bool (z == z')) w:=
 zmq (by kernel_rfl) (fun d w=>by rw[Op.equalIn]; simp[run_underlying underlying296]) w
theorem zwm (a b:ByteArray) (w:World) : (binOp .eql 66 (.iface 229 (.string a)) (.iface 229 (.string b))).run prog w = .ok (.bool (a == b)) w:=
 zmq (by kernel_rfl) (fun d w=>by rw[Op.equalIn]; simp[run_underlying underlying229]) w
theorem zjv (a b:Bool) (w:World) : (binOp .eql 66 (.iface 258 (.bool a)) (.iface 258 (.bool b))).run prog w = .ok (.bool (a == b)) w:=
 zmq (by kernel_rfl) (fun d w=>by rw[Op.equalIn]; simp[run_underlying underlying258]) w
theorem znK {tp te:TypeId} (hinfo:(prog.info? tp).map (·.comparable)=some true) (hu:prog.underlying tp=some (.pointer te)) (hz:∀ w:World,∃ n,n≠0/\(sizeOf te).run prog w = .ok n w) (a b:Nat) (hne:a≠b) (w:World) {ca cb:Array Value} {ta tb:TypeId} (ha:w.heap[a]?=some (.cells ca ta (0,0))) (hb:w.heap[b]?=some (.cells cb tb (0,0))) :
  (binOp .eql 66 (.iface tp (.pointer (some ⟨a,0,none⟩))) (.iface tp (.pointer (some ⟨b,0,none⟩)))).run prog w = .ok (.bool false) w:=by
 obtain⟨i,hi,hc⟩:=yz.1 hinfo
 obtain⟨n,hn,hs⟩:=hz w
 have h0:(sameAddr ⟨a,0,none⟩ ⟨b,0,none⟩).run prog w = .ok false w  :=run_sameAddr_other w (by intro e; injection e with e; exact hne e) ha hb
 have h:∀ d:Nat,(Op.equalIn (d+1) tp (.pointer (some ⟨a,0,none⟩)) (.pointer (some ⟨b,0,none⟩))).run prog w = .ok false w:=fun d=>by
  rw[Op.equalIn]; simp[run_underlying hu,hs,hn,h0]
 have h1:∀ d:Nat,(Op.equalIn (d+1+1) 66 (.iface tp (.pointer (some ⟨a,0,none⟩))) (.iface tp (.pointer (some ⟨b,0,none⟩)))).run prog w = .ok false w:=fun d=>by
  rw[Op.equalIn]
  simp[run_underlying underlying66,typeInfo,hi,hc,h d]
 simp only[binOp]
 simp[Op.equal,Op.maxDepth,h1 9998]
theorem znL (z:Int) : (0<=z/\Lib.itoa z=zb5 z.toNat)∨(z < 0/\Lib.itoa z=45 :: zb5 z.natAbs):=by
 unfold Lib.itoa
 split
 ·exact .inr ⟨by omega,by rw[zkL]⟩
 ·exact .inl ⟨by omega,by rw[zkL]⟩
theorem zvd (z z':Int) : (z == z')=(Lib.itoa z == Lib.itoa z'):=by
 rw[Bool.eq_iff_iff,yC,yC]
 constructor
 ·intro h; rw[h]
 ·intro h
  rcases znL z with ⟨a,b⟩ | ⟨a,b⟩ <;> rcases znL z' with ⟨c,d⟩ | ⟨c,d⟩ <;> rw[b,d] at h
  ·have:=zfH h; omega
  ·have hd:=(zgM z.toNat).2.1 45 (by rw[h]; simp)
   exact absurd hd (by decide)
  ·have hd:=(zgM z'.toNat).2.1 45 (by rw[← h]; simp)
   exact absurd hd (by decide)
  ·injection h with _ h
   have:=zfH h; omega
theorem zqC (a b:List UInt8) : (zac a == zac b)=(a == b):=by
 show ((zac a).data == (zac b).data)=_
 simp[zac]
def zd6:JV->TypeId
 | .nul=>257
 | .tt=>258
 | .ff=>258
 | .num _=>296
 | .str _=>229
 | .arr _=>195
 | .obj _=>225
theorem zgm {w:World} {S:Nat->Prop} {a:JV} {v:Value} (h:Rep w S a v) : ∃ q,v = .iface (zd6 a) q:=by
 cases a <;> rw[Rep] at h
 ·exact⟨_,h⟩
 ·exact⟨_,h⟩
 ·exact⟨_,h⟩
 ·obtain⟨z,h,_⟩:=h; exact⟨_,h⟩
 ·exact⟨_,h⟩
 ·obtain⟨ab,sv,xs,h,_⟩:=h; exact⟨_,h⟩
 ·obtain⟨ob,b,nn,xs,h,_⟩:=h; exact⟨_,h⟩
theorem zqD {a b:JV} (h:zd6 a≠zd6 b) : zeX a b=false:=by
 cases a <;> cases b <;> first | rfl | exact absurd rfl h
theorem zwn (w:World) : (binOp .eql 66 (.iface 257 (.agg #[])) (.iface 257 (.agg #[]))).run prog w = .ok (.bool true) w:=by kernel_rfl
theorem zve {w:World} {S1 S2:Nat->Prop} (hd:∀ k,S1 k->¬ S2 k) {a b:JV} {v1 v2:Value} (h1:Rep w S1 a v1) (h2:Rep w S2 b v2) : (binOp .eql 66 v1 v2).run prog w = .ok (.bool (zeX a b)) w:=by
 have sz:∀ w:World,∃ n,n≠0/\(sizeOf 198).run prog w = .ok n w:=fun w=>⟨1,by decide,by kernel_rfl⟩
 have sz2:∀ w:World,∃ n,n≠0/\(sizeOf 228).run prog w = .ok n w:=fun w=>⟨1,by decide,by kernel_rfl⟩
 by_cases ht:zd6 a=zd6 b
 ·cases a with
  | nul=>cases b with
   | nul=>rw[Rep] at h1 h2; subst h1; subst h2; exact zwn w
   | _=>exact absurd ht (by simp only[zd6]; decide)
  | tt=>cases b with
   | tt=>rw[Rep] at h1 h2; subst h1; subst h2; exact zjv true true w
   | ff=>rw[Rep] at h1; rw[Rep] at h2; subst h1; subst h2; exact zjv true false w
   | _=>exact absurd ht (by simp only[zd6]; decide)
  | ff=>cases b with
   | tt=>rw[Rep] at h1; rw[Rep] at h2; subst h1; subst h2; exact zjv false true w
   | ff=>rw[Rep] at h1 h2; subst h1; subst h2; exact zjv false false w
   | _=>exact absurd ht (by simp only[zd6]; decide)
  | num l=>cases b with
   | num m=>
    rw[Rep] at h1 h2
    obtain⟨z,h1,e1,_⟩:=h1
    obtain⟨z',h2,e2,_⟩:=h2
    subst h1; subst h2
    rw[zwl,zvd,e1,e2]; rfl
   | _=>exact absurd ht (by simp only[zd6]; decide)
  | str l=>cases b with
   | str m=>rw[Rep] at h1 h2; subst h1; subst h2; rw[zwm,zqC]; rfl
   | _=>exact absurd ht (by simp only[zd6]; decide)
  | arr l=>cases b with
   | arr m=>
    rw[Rep] at h1 h2
    obtain⟨ab,sv,xs,h1,s1,g1,_⟩:=h1
    obtain⟨ab',sv',xs',h2,s2,g2,_⟩:=h2
    subst h1; subst h2
    exact znK (by kernel_rfl) underlying195 sz ab ab' (fun e=>hd ab s1 (by rw[e]; exact s2)) w g1 g2
   | _=>exact absurd ht (by simp only[zd6]; decide)
  | obj l=>cases b with
   | obj m=>
    rw[Rep] at h1 h2
    obtain⟨ob,b,nn,xs,h1,s1,_,g1,_⟩:=h1
    obtain⟨ob',b',nn',xs',h2,s2,_,g2,_⟩:=h2
    subst h1; subst h2
    exact znK (by kernel_rfl) underlying225 sz2 ob ob' (fun e=>hd ob s1 (by rw[e]; exact s2)) w g1 g2
   | _=>exact absurd ht (by simp only[zd6]; decide)
 ·obtain⟨q1,rfl⟩:=zgm h1
  obtain⟨q2,rfl⟩:=zgm h2
  rw[zqD ht]
  exact run_eql_iface_types _ _ _ _ underlying66 ht w
end Go.Proofs.YtekpghcckdjnhaaGreatDoor
