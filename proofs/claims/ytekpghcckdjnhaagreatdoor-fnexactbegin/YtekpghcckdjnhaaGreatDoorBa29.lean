import Derived.Lib.BufferKept
import Derived.Test.YtekpghcckdjnhaaGreatDoorBa7
import Derived.Test.YtekpghcckdjnhaaGreatDoorBa14
import Derived.Test.YtekpghcckdjnhaaGreatDoorBa28
set_option maxRecDepth 100000
set_option maxHeartbeats 8000000
namespace Go.Proofs.YtekpghcckdjnhaaGreatDoor
open Go.RowKit Go.Sort Go.Proofs.Tryz
def wf:JV->FuncId
 | .nul=>335
 | .tt=>336
 | .ff=>336
 | .num _=>350
 | .str _=>325
 | .arr _=>322
 | .obj _=>324
structure zxM (t:TypeId) (p:Value) (f:FuncId) : Prop where
 meth : ∀ w : World, (method 509 t p "loop.example/s04350/impl.write").run Tryz.prog w = .ok (f, p) w
 ent:∀ args (w:World),(callFunc f args).run prog w = .ok (.enter f args) w
theorem za8 {w:World} {S:Nat->Prop} : ∀ {v:JV} {x:Value},Rep w S v x->∃ t p,x = .iface t p
 | .nul,x,h=>by rw[Rep] at h; exact⟨_,_,h⟩
 | .tt,x,h=>by rw[Rep] at h; exact⟨_,_,h⟩
 | .ff,x,h=>by rw[Rep] at h; exact⟨_,_,h⟩
 | .num l,x,h=>by rw[Rep] at h; obtain⟨z,h,_⟩:=h; exact⟨_,_,h⟩
 | .str l,x,h=>by rw[Rep] at h; exact⟨_,_,h⟩
 | .arr l,x,h=>by rw[Rep] at h; obtain⟨ab,sv,xs,h,_⟩:=h; exact⟨_,_,h⟩
 | .obj m,x,h=>by rw[Rep] at h; obtain⟨ob,b,nn,xs,h,_⟩:=h; exact⟨_,_,h⟩
theorem zxY {w:World} {S:Nat->Prop} : ∀ {v:JV} {t:TypeId} {p:Value},Rep w S v (.iface t p)->zxM t p (wf v)
 | .nul,t,p,h=>by
  rw[Rep] at h; injection h with h1 h2; subst h1; subst h2
  exact⟨fun _=>by kernel_rfl,enters_of func335 (by kernel_rfl) rfl⟩
 | .tt,t,p,h=>by
  rw[Rep] at h; injection h with h1 h2; subst h1; subst h2
  exact⟨fun _=>by kernel_rfl,enters_of func336 (by kernel_rfl) rfl⟩
 | .ff,t,p,h=>by
  rw[Rep] at h; injection h with h1 h2; subst h1; subst h2
  exact⟨fun _=>by kernel_rfl,enters_of func336 (by kernel_rfl) rfl⟩
 | .num l,t,p,h=>by
  rw[Rep] at h; obtain⟨z,h,_⟩:=h; injection h with h1 h2; subst h1; subst h2
  exact⟨fun _=>by kernel_rfl,enters_of func350 (by kernel_rfl) rfl⟩
 | .str l,t,p,h=>by
  rw[Rep] at h; injection h with h1 h2; subst h1; subst h2
  exact⟨fun _=>by kernel_rfl,enters_of func325 (by kernel_rfl) rfl⟩
 | .arr l,t,p,h=>by
  rw[Rep] at h; obtain⟨ab,sv,xs,h,_⟩:=h; injection h with h1 h2; subst h1; subst h2
  exact⟨fun _=>by kernel_rfl,enters_of func322 (by kernel_rfl) rfl⟩
 | .obj m,t,p,h=>by
  rw[Rep] at h; obtain⟨ob,b,nn,xs,h,_⟩:=h; injection h with h1 h2; subst h1; subst h2
  exact⟨fun _=>by kernel_rfl,enters_of func324 (by kernel_rfl) rfl⟩
def zjs (B : Nat) (w : World) : Prop := 6 < B ∧ Lib.TabIs Tryz.prog w "internal/strconv.uint64pow10" .u64 Lib.pow10Tab
theorem zjs.next {B B':Nat} {w w':World} (h:zjs B w) (hb:Below B' w w') (hB:B<=B') : zjs B w':=by
 obtain⟨h0,h⟩:=h
 refine⟨h0,?_⟩
 have hgn : Tryz.prog.globalNamed "internal/strconv.uint64pow10" = some 6 := by kernel_rfl
 unfold Lib.TabIs World.var? at h ⊢
 rw[hgn] at h ⊢
 simp only[yA] at h ⊢
 rw[hb.block _ (by omega)]
 exact h
theorem znI {B b:Nat} {l:List UInt8} {w w1:World} (h:IsB B b l w) (hb:Below w.heap.size w w1) : IsB B b l w1:=by
 have g:∀ p,Lib.BuilderAt 192 5 B b p (Lib.byteCells l) w->Lib.BuilderAt 192 5 B b p (Lib.byteCells l) w1:=by
  rintro p ⟨hB,v,hbk,hown,hne⟩
  exact⟨hB,v,(hb.block b (yB.1 hbk).1).trans hbk,zaj hown hb,hne⟩
 exact h.elim (fun x=>.inl (g _ x)) (fun x=>.inr (g _ x))
theorem zoP (w:World) (k:Nat) (os:Array Obj) : Below w.heap.size w (grow (w.drewN k) os):=
 ⟨rfl,rfl,rfl,by simp[grow],fun i hi=>by show (w.heap++os)[i]?=_; rw[Array.getElem?_append_left hi]⟩
def zdR (v:JV) : Prop:=∀ (B b:Nat) (l:List UInt8) (w:World) (S:Nat->Prop) (t:TypeId) (p:Value),Rep w S v (.iface t p)->(∀ k,S k->k < B)->IsB B b l w->B<=w.heap.size->zjs B w->l.length+(ct v).length<=10000000 ->
 Calls prog (wf v) #[p,.pointer (some ⟨b,0,none⟩)] w fun e w'=>e = .returned (.tuple #[])/\IsB B b (l++ct v) w'/\Below B w w'/\OK5 b w w'
theorem zqv:zdR .nul:=by
 intro B b l w S t p h _ hI hB _ hl
 rw[Rep] at h; injection h with h1 h2; subst h1; subst h2
 have hw:B<=(w.alloc (.cells #[] 257)).heap.size:=by simp; omega
 have HC:=zab (zaE B b _ ⟨#[110,117,108,108]⟩ (w.alloc (.cells #[] 257)) (hI.alloc _) (by rw[yK]; simp[ct] at hl; show _+4<=_; omega) hw)
 show Calls prog 335 _ _ _
 go_enter func335,ntmps335
 go_wp2_with fail
 refine (uh HC).mono ?_
 rintro e w1 ⟨rfl,h1,b1,k1⟩
 go_wp2
 go_end0
 exact⟨rfl,IsB.str rfl h1,((yH _ _).alloc hB _).trans b1,((Lib.OthersKept.refl _ _ _).alloc _).trans k1⟩
theorem ziK (x:Bool) (B b:Nat) (l:List UInt8) (w:World) (hI:IsB B b l w) (hB:B<=w.heap.size) (hl:l.length<=10000000) :
  Calls prog 336 #[.bool x,.pointer (some ⟨b,0,none⟩)] w fun e w'=>e = .returned (.tuple #[])/\IsB B b (l++Lib.formatBool x) w'/\Below B w w'/\OK5 b w w':=by
 have hz:(⟨(Lib.formatBool x).toArray⟩ : ByteArray).size<=5:=by cases x <;> decide
 have HC:=zab (zaE B b _ ⟨(Lib.formatBool x).toArray⟩ w hI (by rw[yK]; omega) hB)
 have HF:=zab (Tryz.strconv_FormatBool x w)
 have hd:Hid (Lib.formatBool x=(⟨(Lib.formatBool x).toArray⟩ : ByteArray).data.toList):=by show _=_; simp
 generalize (⟨(Lib.formatBool x).toArray⟩ : ByteArray)=q at *
 generalize Lib.formatBool x=q' at *
 go_enter func336,ntmps336
 go_wp2_with fail
 refine (uh HF).mono ?_
 rintro e w1 ⟨rfl,rfl⟩
 clear HF
 go_wp2_with fail
 refine (uh HC).mono ?_
 rintro e w1 ⟨rfl,h1,b1,k1⟩
 go_wp2
 go_end0
 exact⟨rfl,IsB.str (uh hd) h1,b1,k1⟩
theorem zsP:zdR .tt:=by
 intro B b l w S t p h _ hI hB _ hl
 rw[Rep] at h; injection h with h1 h2; subst h1; subst h2
 exact ziK true B b l w hI hB (by simp[ct] at hl; omega)
theorem zsQ:zdR .ff:=by
 intro B b l w S t p h _ hI hB _ hl
 rw[Rep] at h; injection h with h1 h2; subst h1; subst h2
 exact ziK false B b l w hI hB (by simp[ct] at hl; omega)
theorem zqw (x:List UInt8) : zdR (.num x):=by
 intro B b l w S t p h _ hI hB hP hl
 rw[Rep] at h; obtain⟨z,h,rfl,z0,z1⟩:=h; injection h with h1 h2; subst h1; subst h2
 have HF:=zab (Tryz.strconv_FormatInt_10 z z0 z1 w hP.2)
 have hct:ct (.num (Lib.itoa z))=Lib.itoa z:=rfl
 rw[hct] at hl ⊢
 have hz:(⟨(Lib.itoa z).toArray⟩ : ByteArray).size=(Lib.itoa z).length:=by show (Lib.itoa z).toArray.size=_; simp
 have HC:Hid (∀ w1,Below w.heap.size w w1->Calls prog 252 #[.pointer (some ⟨b,0,none⟩),.string ⟨(Lib.itoa z).toArray⟩] w1 fun e w'=>e = .returned (.tuple #[.int .i64 (⟨(Lib.itoa z).toArray⟩ : ByteArray).size,.nilIface])/\IsB B b (l++Lib.itoa z) w'/\Below B w1 w'/\OK5 b w1 w'):=fun w1 hb=>by
  have hI1:IsB B b l w1:=znI hI hb
  refine (zaE B b _ ⟨(Lib.itoa z).toArray⟩ w1 hI1 (by rw[yK]; omega) (yP hB hb.size)).mono ?_
  rintro e w' ⟨rfl,h1,b1,k1⟩
  exact⟨rfl,IsB.str (by simp) h1,b1,k1⟩
 generalize (⟨(Lib.itoa z).toArray⟩ : ByteArray)=q at *
 generalize Lib.itoa z=q' at *
 have HB:=zab hB
 clear hI hB hP hl
 show Calls prog 350 _ _ _
 go_enter func350,ntmps350
 go_wp2_with fail
 refine (uh HF).mono ?_
 rintro e w1 ⟨rfl,k,os,rfl⟩
 have b0:Below w.heap.size w (grow (w.drewN k) os):=zoP _ _ _
 clear HF
 generalize grow (w.drewN k) os=w1 at *
 have HC1:=zab (uh HC w1 b0)
 clear HC
 go_wp2_with fail
 refine (uh HC1).mono ?_
 rintro e w2 ⟨rfl,h1,b1,k1⟩
 go_wp2
 go_end0
 exact⟨rfl,h1,(b0.mono (uh HB)).trans b1,(Lib.OthersKept.below (Lib.OthersKept.refl _ _ _) b0).trans k1⟩
theorem zqx (x:List UInt8) (hv:Lib.validD x=true) : zdR (.str x):=by
 intro B b l w S t p h _ hI hB _ hl
 rw[Rep] at h; injection h with h1 h2; subst h1; subst h2
 have e:ct (.str x)=34 :: (rs (zac x)++[34]):=by rw[zu0 (zac x) (by rw[zad]; exact hv),zad]; rfl
 have hx:x.length<=(ct (.str x)).length:=by
  show _<=(quoted x).length
  have:x.length<=(qs x).length:=zxy x
  simp[quoted]; omega
 refine (zdz B b l (zac x) w hI hB (by omega) (by rw[zaf]; omega)).mono ?_
 rintro e1 w' ⟨rfl,h1,b1,k1⟩
 exact⟨rfl,by rw[e]; exact h1,b1,k1⟩
theorem zbJ {w:World} {S:Nat->Prop} : ∀ (l:JL) (xs:List Value),zbS w S l xs->xs.length=l.toL.length/\∀ j (h:j < xs.length) (h':j < l.toL.length),Rep w S l.toL[j] xs[j]
 | .nil,xs,h=>by rw[zbS] at h; subst h; exact⟨rfl,fun j h=>by simp at h⟩
 | .cons v r,xs,h=>by
  rw[zbS] at h
  obtain⟨x,xs',rfl,h2,h3⟩:=h
  obtain⟨i1,i2⟩:=zbJ r xs' h3
  refine⟨by simp[JL.toL,i1],fun j hj hj'=>?_⟩
  cases j with
  | zero=>exact h2
  | succ j=>exact i2 j (by simpa using hj) (by simpa [JL.toL] using hj')
theorem zbD {w:World} {S:Nat->Prop} {sv:Value} {xs:List Value} (h:zkw w S sv xs) : ∃ a g cap,sv = .slice a xs.length cap/\(0 < xs.length->a=some ⟨g,0,none⟩/\S g)/\∀ j (hj:j < xs.length),w.cell? ⟨g,j,none⟩=some xs[j]:=by
 obtain⟨h,hS⟩:=h
 have hcl:=h.1
 rcases h.2 with ⟨hv,h0⟩ | ⟨g,cap,cur,hv,hB,hg,r⟩
 ·refine⟨none,0,0,by rw[hv,h0],fun hx=>by omega,fun j hj=>by omega⟩
 ·subst hv
  refine⟨some ⟨g,0,none⟩,g,cap,rfl,fun _=>⟨rfl,hS g rfl⟩,fun j hj=>?_⟩
  rw[h.cellAt j (by omega)]
  simp
theorem zkJ (xs:List (List UInt8)) (k:Nat) (h:k < xs.length) : joinC (xs.take (k+1))=joinC (xs.take k)++(if k=0 then xs[k] else 44 :: xs[k]):=by
 rw[yy h,zeF]
 by_cases hk:k=0
 ·subst hk; simp
 ·rw[yf hk,yf (by intro e; have:=congrArg List.length e; rw[ym,yD] at this; omega)]
theorem znJ (xs:List (List UInt8)) (k:Nat) : (joinC (xs.take k)).length<=(joinC xs).length:=by
 induction xs generalizing k with
 | nil=>simp
 | cons x xs ih=>
  cases k with
  | zero=>simp[joinC]
  | succ k=>
   rw[List.take_succ_cons,joinC,joinC]
   have:∀ (ys:List (List UInt8)) k,(joinT (ys.take k)).length<=(joinT ys).length:=by
    intro ys
    induction ys with
    | nil=>simp
    | cons y ys ihy=>
     intro k
     cases k with
     | zero=>simp[joinT]
     | succ k=>rw[List.take_succ_cons,joinT,joinT]; have:=ihy k; simp; omega
   have:=this xs k
   simp; omega
theorem zkK (xs:List (List UInt8)) : xs.length<=(joinC xs).length+1:=by
 cases xs with
 | nil=>simp
 | cons x xs=>
  rw[joinC]
  have:∀ ys:List (List UInt8),ys.length<=(joinT ys).length:=by
   intro ys
   induction ys with
   | nil=>simp
   | cons y ys ih=>rw[joinT]; simp; omega
  have:=this xs
  simp; omega
theorem zqy (l:JL) (hall:∀ v∈l.toL,zdR v) : zdR (.arr l):=by
 intro B b l0 w S t p h hS hI hB hP hlen
 rw[Rep] at h
 obtain⟨ab,sv,xs,h,hSab,hab,hrow,hrl⟩:=h
 injection h with h1 h2; subst h1; subst h2
 obtain⟨a,g,cap,rfl,hadr,hcell⟩:=zbD hrow
 have hxl:=(zbJ l xs hrl).1
 have hc0:w.cell? ⟨ab,0,none⟩=some (.slice a xs.length cap):=by rw[yF hab]; rfl
 have hablt:ab < B:=hS _ hSab
 have hct:ct (.arr l)=91 :: (joinC (ctL l)++[93]):=rfl
 have hcl:(ctL l).length=xs.length:=by rw[zaG,yl,hxl]
 have hn:=zkK (ctL l)
 have hjt:l0.length+(joinC (ctL l)).length+2<=10000000:=by rw[hct] at hlen; simp at hlen; omega
 have hxn:xs.length<=10000000:=by omega
 have HALL:Hid (∀ (k:Nat) (hk:k < xs.length) (acc:List UInt8) (wr:World),IsB B b acc wr->Below B w wr->acc.length+((ctL l).getD k []).length<=10000000->∃ t p f,xs[k] = .iface t p/\zxM t p f/\Calls prog f #[p,.pointer (some ⟨b,0,none⟩)] wr fun e w'=>e = .returned (.tuple #[])/\IsB B b (acc++(ctL l).getD k []) w'/\Below B wr w'/\OK5 b wr w'):=by
  intro k hk acc wr hI' hb' hl'
  have hk':k < l.toL.length:=by omega
  have hr:=(zbJ l xs hrl).2 k hk hk'
  obtain⟨t,p,he⟩:=za8 hr
  rw[he] at hr
  have hr':=Rep.keep (w':=wr) (S':=S) (fun k hk=>hb'.block k (hS k hk)) (fun _ h=>h) _ _ hr
  have hd:(ctL l).getD k []=ct l.toL[k]:=by rw[zaG]; simp[List.getD,hk']
  rw[hd] at hl' ⊢
  exact⟨t,p,wf l.toL[k],he,zxY hr,hall _ (yr hk') B b acc wr S t p hr' hS hI' (yP hB hb'.size) (hP.next hb' (ye _)) hl'⟩
 have HJ:Hid (∀ k,k < xs.length->joinC ((ctL l).take (k+1))=joinC ((ctL l).take k)++(if k=0 then (ctL l).getD k [] else 44 :: (ctL l).getD k [])):=fun k hk=>by
  have:=zkJ (ctL l) k (by omega)
  rw[this]; simp[List.getD,show k < (ctL l).length by omega]
 have HJL:Hid (∀ k,(joinC ((ctL l).take k)).length<=(joinC (ctL l)).length):=znJ (ctL l)
 have HE:Hid ((ctL l).take xs.length=ctL l):=yq (by omega)
 have HC:Hid (∀ j (hj:j < xs.length) (wr:World),Below B w wr->wr.cell? ⟨g,j,none⟩=some xs[j]):=fun j hj wr hb'=>by
  have hg:g < B:=hS _ ((hadr (by omega)).2)
  exact (hb'.cell (p:=⟨g,j,none⟩) hg).trans (hcell j hj)
 have hadr':0 < xs.length->a=some ⟨g,0,none⟩:=fun h=>(hadr h).1
 have HCT:=zab hct
 have hl0:(Lib.byteCells l0).length<=10000000:=by rw[yK]; omega
 generalize ctL l=cs at *
 have HW1:Hid (∀ (acc:List UInt8) (c:Int) (c':UInt8) (wr:World),c=(c'.toNat:Int)->acc.length<=10000000->IsB B b acc wr->B<=wr.heap.size->Calls prog 180 #[.pointer (some ⟨b,0,none⟩),.int .u8 c] wr fun e w'=>e = .returned .nilIface/\IsB B b (acc++[c']) w'/\Below B wr w'/\OK5 b wr w'):=fun acc c c' wr hc ha hI' hB'=>by
  refine (zb8 B b _ c wr hI' (by rw[yK]; omega) hB').mono ?_
  rintro e w' ⟨rfl,h1,b1,k1⟩
  exact⟨rfl,IsB.byte hc h1,b1,k1⟩
 have HW0:=zab (uh HW1 l0 91 91 w rfl (by omega) hI hB)
 have HB:=zab hB
 clear hrow hrl hcell hadr hS hP hab hct hcl hall hlen hxl hn hI hB hSab
 show Calls prog 322 _ _ _
 go_enter func322,ntmps322
 go_wp2_with fail
 refine (uh HW0).mono ?_
 rintro e w1 ⟨rfl,i1,b1,k1⟩
 have hc1:w1.cell? ⟨ab,0,none⟩=some (.slice a xs.length cap):=(b1.cell (p:=⟨ab,0,none⟩) hablt).trans hc0
 clear HW0 hc0
 have I1:=zab i1
 have B1:=zab b1
 have K1:=zab k1
 clear i1 b1 k1
 go_wp2
 go_loopw [13] (fun i wr=>∃ k:Nat,k<=xs.length/\i = .int .i64 k/\IsB B b (l0++91 :: joinC (cs.take k)) wr/\Below B w wr/\OK5 b w wr) (fun i _=>xs.length - (intOf i).toNat)
 case atStart=>exact⟨0,yt _,rfl,by have:=uh I1; simpa [joinC] using this,uh B1,uh K1⟩
 case round=>
  obtain⟨k,hk,rfl,hI,hb,hok⟩:=hrel
  have HOK:=zab hok
  clear hok K1
  have hBr:B<=wr.heap.size:=yP (uh HB) hb.size
  clear I1 B1 hc1
  by_cases hlt:k < xs.length
  ·have hltI:(k:Int) < (xs.length:Int):=by omega
   obtain rfl:=hadr' (by omega)
   have hck:=uh HC k hlt wr hb
   have HJk:=zab (uh HJ k hlt)
   have hj1:=uh HJL (k+1)
   rw[uh HJk] at hj1
   have hj0:=uh HJL k
   generalize joinC (cs.take k)=jk at *
   by_cases hk0:k=0
   ·rw[yg hk0] at HJk hj1
    have tk:(0 < k)=False:=yQ (by omega)
    obtain⟨t,p,f,he,hw,hcall⟩:=uh HALL k hlt (l0++91 :: jk) wr hI hb (by simp at hj1 ⊢; omega)
    rw[he] at hck
    have hm:=hw.meth
    have hen:=hw.ent
    have HCALL:=zab hcall
    generalize cs.getD k []=ck at *
    have HB':=zab hb
    clear hI hw he hcall hj1 hj0 HALL HJ HJL HC HW1 hb hk0
    go_wp2_with fail
    refine (uh HCALL).mono ?_
    rintro e w2 ⟨rfl,i2,b2,k2⟩
    clear HCALL hck hm hen
    go_wp2
    go_roundw
    case rel=>exact⟨k+1,by omega,by go_num,by rw[uh HJk]; simpa using i2,(uh HB').trans b2,(uh HOK).trans k2⟩
    case measure=>simp[intOf]; omega
   ·rw[yf hk0] at HJk hj1
    have tk:(0 < k)=True:=eq_true (by omega)
    have HWC:=zab (uh HW1 (l0++91 :: jk) 44 44 wr rfl (by simp at hj0 ⊢; omega) hI hBr)
    have HIB:=zab (⟨hI,hb⟩ : IsB B b (l0++91 :: jk) wr/\Below B w wr)
    have HALLk:Hid (∀ w2,IsB B b (l0++91 :: jk++[44]) w2->Below B w w2->∃ t p f,xs[k] = .iface t p/\zxM t p f/\Calls prog f #[p,.pointer (some ⟨b,0,none⟩)] w2 fun e w'=>e = .returned (.tuple #[])/\IsB B b (l0++91 :: jk++[44]++cs.getD k []) w'/\Below B w2 w'/\OK5 b w2 w'):=fun w2 h1 h2=>uh HALL k hlt _ w2 h1 h2 (by simp at hj1 ⊢; omega)
    generalize cs.getD k []=ck at *
    generalize hx:xs[k]=x at *
    clear hI hb hj1 hj0 HALL HJ HJL HC HW1 hx
    go_wp2_with fail
    refine (uh HWC).mono ?_
    rintro e w2 ⟨rfl,i2,b2,k2⟩
    obtain⟨t,p,f,rfl,hw,hcall⟩:=uh HALLk w2 i2 ((uh HIB).2.trans b2)
    have hm:=hw.meth
    have hen:=hw.ent
    have HCALL:=zab hcall
    have B2:=zab ((uh HIB).2.trans b2)
    have K2:=zab ((uh HOK).trans k2)
    clear HWC HALLk HIB i2 b2 k2 hw hcall hck
    go_wp2_with fail
    refine (uh HCALL).mono ?_
    rintro e w3 ⟨rfl,i3,b3,k3⟩
    clear HCALL hm hen
    go_wp2
    go_roundw
    case rel=>exact⟨k+1,by omega,by go_num,by rw[uh HJk]; simpa using i3,(uh B2).trans b3,(uh K2).trans k3⟩
    case measure=>simp[intOf]; omega
  ·have hk':k=xs.length:=by omega
   subst hk'
   rw[uh HE] at hI
   have HWE:=zab (uh HW1 (l0++91 :: joinC cs) 93 93 wr rfl (by simp; omega) hI hBr)
   have HB':=zab hb
   clear hI hb HALL HJ HJL HC HW1
   go_wp2_with fail
   refine (uh HWE).mono ?_
   rintro e w2 ⟨rfl,i2,b2,k2⟩
   go_wp2
   go_end0
   exact⟨rfl,by rw[uh HCT]; simpa using i2,(uh HB').trans b2,(uh HOK).trans k2⟩
end Go.Proofs.YtekpghcckdjnhaaGreatDoor
