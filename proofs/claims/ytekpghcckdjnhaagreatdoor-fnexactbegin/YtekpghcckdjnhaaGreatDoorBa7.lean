import Derived.Test.YtekpghcckdjnhaaGreatDoorBa6
set_option maxRecDepth 100000
set_option maxHeartbeats 8000000
namespace Go.Proofs.YtekpghcckdjnhaaGreatDoor
open Go.RowKit Go.Proofs.Tryz
def zgy:JL->List UInt8
 | .nil=>[]
 | .cons v r=>ct v++44 :: zgy r
theorem zhX:∀ (a:JL) (v:JV),zgy (a.app (.cons v .nil))=zgy a++(ct v++[44])
 | .nil,v=>by simp[JL.app,zgy]
 | .cons u r,v=>by simp[JL.app,zgy,zhX r v]
theorem zlo:∀ (a:JL) (v:JV),44 :: (zgy a++ct v)=joinT (ctL (a.app (.cons v .nil)))
 | .nil,v=>by simp[JL.app,zgy,ctL,joinT]
 | .cons u r,v=>by
  have:=zlo r v
  simp[JL.app,zgy,ctL,joinT,← this]
theorem zrt (a:JL) (v:JV) : zgy a++ct v=joinC (ctL (a.app (.cons v .nil))):=by
 cases a with
 | nil=>simp[JL.app,zgy,ctL,joinC,joinT]
 | cons u r=>
  have:=zlo r v
  simp[JL.app,zgy,ctL,joinC,← this]
abbrev zfB (t:ByteArray) (n:Nat) (ok b tw:Bool) : Obj:=.cells #[.string t,.int .i64 (n:Int),.bool ok,.bool b,.bool tw] 135 (0,0)
def Got (g:Nat) (t:ByteArray) (n:Nat) (ok b tw:Bool) (w:World) : Prop:=w.heap[g]?=some (zfB t n ok b tw)
theorem Got.c0 {g n:Nat} {t:ByteArray} {ok b tw:Bool} {w:World} (h:Got g t n ok b tw w) : w.cell? ⟨g,0,none⟩=some (.string t):=by rw[yF h]; rfl
theorem Got.c1 {g n:Nat} {t:ByteArray} {ok b tw:Bool} {w:World} (h:Got g t n ok b tw w) : w.cell? ⟨g,1,none⟩=some (.int .i64 (n:Int)):=by rw[yF h]; rfl
theorem Got.c2 {g n:Nat} {t:ByteArray} {ok b tw:Bool} {w:World} (h:Got g t n ok b tw w) : w.cell? ⟨g,2,none⟩=some (.bool ok):=by rw[yF h]; rfl
theorem Got.c3 {g n:Nat} {t:ByteArray} {ok b tw:Bool} {w:World} (h:Got g t n ok b tw w) : w.cell? ⟨g,3,none⟩=some (.bool b):=by rw[yF h]; rfl
theorem Got.c4 {g n:Nat} {t:ByteArray} {ok b tw:Bool} {w:World} (h:Got g t n ok b tw w) : w.cell? ⟨g,4,none⟩=some (.bool tw):=by rw[yF h]; rfl
theorem Got.fz {g n:Nat} {t:ByteArray} {ok b tw:Bool} {w:World} (h:Got g t n ok b tw w) (k:Nat) : w.frozen? ⟨g,k,none⟩=false:=yI h k
theorem Got.lt {g n:Nat} {t:ByteArray} {ok b tw:Bool} {w:World} (h:Got g t n ok b tw w) : g < w.heap.size:=(yB.1 h).1
theorem Got.below {g n:Nat} {t:ByteArray} {ok b tw:Bool} {w w':World} (h:Got g t n ok b tw w) (hb:Below w.heap.size w w') : Got g t n ok b tw w':=(hb.block g h.lt).trans h
theorem Got.alloc {g n:Nat} {t:ByteArray} {ok b tw:Bool} {w:World} (h:Got g t n ok b tw w) (o:Obj) : Got g t n ok b tw (w.alloc o):=h.below (zai w o)
theorem Got.other {g n:Nat} {t:ByteArray} {ok b tw:Bool} {w:World} (h:Got g t n ok b tw w) {p:Addr} (hp:g≠p.block) (v:Value) : Got g t n ok b tw (w.setCell p v):=(Below.heap_setCell w p v g hp).trans h
theorem Got.set0 {g n:Nat} {t:ByteArray} {ok b tw:Bool} {w:World} (h:Got g t n ok b tw w) (t':ByteArray) : Got g t' n ok b tw (w.setCell ⟨g,0,none⟩ (.string t')):=heap_setCell_same w g 0 _ 135 (.string t') h
theorem Got.set1 {g n:Nat} {t:ByteArray} {ok b tw:Bool} {w:World} (h:Got g t n ok b tw w) (z:Int) (n':Nat) (hz:z=(n':Int)) : Got g t n' ok b tw (w.setCell ⟨g,1,none⟩ (.int .i64 z)):=by
 subst hz; exact heap_setCell_same w g 1 _ 135 (.int .i64 (n':Int)) h
theorem Got.set3 {g n:Nat} {t:ByteArray} {ok b tw:Bool} {w:World} (h:Got g t n ok b tw w) (b':Bool) : Got g t n ok b' tw (w.setCell ⟨g,3,none⟩ (.bool b')):=heap_setCell_same w g 3 _ 135 (.bool b') h
theorem Got.set4 {g n:Nat} {t:ByteArray} {ok b tw:Bool} {w:World} (h:Got g t n ok b tw w) (b':Bool) : Got g t n ok b b' (w.setCell ⟨g,4,none⟩ (.bool b')):=heap_setCell_same w g 4 _ 135 (.bool b') h
theorem Got.set2 {g n:Nat} {t:ByteArray} {ok b tw:Bool} {w:World} (h:Got g t n ok b tw w) (b':Bool) : Got g t n b' b tw (w.setCell ⟨g,2,none⟩ (.bool b')):=heap_setCell_same w g 2 _ 135 (.bool b') h
theorem Got.put {g n:Nat} {t:ByteArray} {ok b tw:Bool} {w:World} (h:Got g t n ok b tw w) (t':ByteArray) (z:Int) (n':Nat) (hz:z=(n':Int)) (ok' b' tw':Bool) :
  Got g t' n' ok' b' tw' (((((w.setCell ⟨g,0,none⟩ (.string t')).setCell ⟨g,1,none⟩ (.int .i64 z)).setCell ⟨g,2,none⟩ (.bool ok')).setCell ⟨g,3,none⟩ (.bool b')).setCell ⟨g,4,none⟩ (.bool tw')):=
 ((((h.set0 t').set1 z n' hz).set2 ok').set3 b').set4 tw'
theorem Got.copyTo {r g n n0:Nat} {t t0:ByteArray} {ok b tw ok0 b0 tw0:Bool} {w:World} (h:Got r t0 n0 ok0 b0 tw0 w) (_:Got g t n ok b tw w) (z:Int) (hz:z=(n:Int)) :
  Got r t n ok b tw (((((w.setCell ⟨r,0,none⟩ (.string t)).setCell ⟨r,1,none⟩ (.int .i64 z)).setCell ⟨r,2,none⟩ (.bool ok)).setCell ⟨r,3,none⟩ (.bool b)).setCell ⟨r,4,none⟩ (.bool tw)):=h.put t z n hz ok b tw
theorem zbk {B g:Nat} {w w':World} (h:Below B w w') (hg:B<=g) (a b c d e:Value) :
  Below B w (((((w'.setCell ⟨g,0,none⟩ a).setCell ⟨g,1,none⟩ b).setCell ⟨g,2,none⟩ c).setCell ⟨g,3,none⟩ d).setCell ⟨g,4,none⟩ e):=
 ((((h.setCell (p:=⟨g,0,none⟩) hg _).setCell (p:=⟨g,1,none⟩) hg _).setCell (p:=⟨g,2,none⟩) hg _).setCell (p:=⟨g,3,none⟩) hg _).setCell (p:=⟨g,4,none⟩) hg _
theorem zcv {fn:Func} (hres:fn.results=#[.cell 4 135]) {tmps:Array Value} {g n:Nat} {t:ByteArray} {ok b tw:Bool} {w:World} (hp:tmps.getD 4 undef = .pointer (some ⟨g,0,none⟩)) (h:Got g t n ok b tw w) :
  (results fn tmps).run prog w = .ok (zgx t n ok b tw) w:=
 results_cell_row hres tmps w g 135 _ (0,0) _ hp h underlying135 rfl (by kernel_rfl)
theorem zn7:∀ a b c:Bool,(a || b)=c->a=true/\c=true∨a=false/\b=c:=by decide
def zxn (g:Nat) (a b c d e:Value) (w:World) : Prop:=w.cell? ⟨g,0,none⟩=some a/\w.cell? ⟨g,1,none⟩=some b/\w.cell? ⟨g,2,none⟩=some c/\w.cell? ⟨g,3,none⟩=some d/\w.cell? ⟨g,4,none⟩=some e
theorem Got.cells {g n:Nat} {t:ByteArray} {ok b tw:Bool} {w:World} (h:Got g t n ok b tw w) : zxn g (.string t) (.int .i64 (n:Int)) (.bool ok) (.bool b) (.bool tw) w:=⟨h.c0,h.c1,h.c2,h.c3,h.c4⟩
theorem Got.fzs {g n:Nat} {t:ByteArray} {ok b tw:Bool} {w:World} (h:Got g t n ok b tw w) : w.frozen? ⟨g,0,none⟩=false/\w.frozen? ⟨g,1,none⟩=false/\w.frozen? ⟨g,2,none⟩=false/\w.frozen? ⟨g,3,none⟩=false/\w.frozen? ⟨g,4,none⟩=false:=⟨h.fz 0,h.fz 1,h.fz 2,h.fz 3,h.fz 4⟩
theorem zdp (a b:List UInt8) : zac a++zac b=zac (a++b):=by
 apply Go.WideShapes.bytes_inj
 rw[ByteArray.data_append,Array.toList_append,zad,zad,zad]
def zxo (s:ByteArray) : Prop:=
 (∀ (z:Int) (j:Nat) w,z=(j:Int)->Calls prog 83 #[.string s,.int .i64 z] w fun e w'=>e = .returned (.int .i64 (sk s j))/\w=w') /\
 (∀ (c j:Nat) w,c≠0->Calls prog 114 #[.string s,.int .i64 j,.int .u8 c] w fun e w'=>e = .returned (.bool (decide (bt s j=c)))/\w=w')
theorem zru (s:ByteArray) (hs:s.size<=1048576) : zxo s:=by
 refine⟨fun z j w hz=>?_,fun c j w hc=>?_⟩
 ·subst hz; exact zhW s j w hs
 ·have h:=zdt s (j:Int) j rfl c w
  have e:atB s j (c:Int)=decide (bt s j=c):=by
   by_cases hlt:j < s.size
   ·rw[zdX hlt,← zas s j hlt]
    by_cases g:bt s j=c
    ·rw[g]; simp
    ·rw[yk g,yd]; omega
   ·rw[zfQ hlt,zcL s j (by omega)]
    exact (yk (fun g=>hc g.symm)).symm
  rw[e] at h
  exact h
def zrv:Nat->Nat->List UInt8
 | 0,_=>[]
 | f+1,n=>if n < 10 then [UInt8.ofNat (48+n)] else zrv f (n / 10)++[UInt8.ofNat (48+n % 10)]
def zb5 (n:Nat) : List UInt8:=zrv (n+1) n
theorem zlp:∀ (f g n:Nat),n < f->n < g->zrv f n=zrv g n
 | 0,_,_,h,_=>by omega
 | _+1,0,_,_,h=>by omega
 | f+1,g+1,n,hf,hg=>by
  rw[zrv,zrv]
  by_cases h:n < 10
  ·rw[yg h,yg h]
  ·rw[yf h,yf h,zlp f g (n / 10) (by omega) (by omega)]
theorem zbZ {n:Nat} (h:n < 10) : zb5 n=[UInt8.ofNat (48+n)]:=by unfold zb5; rw[zrv,yg h]
theorem zgg {n:Nat} (h:¬ n < 10) : zb5 n=zb5 (n / 10)++zb5 (n % 10):=by
 rw[zbZ (n:=n % 10) (by omega)]
 unfold zb5
 rw[zrv,yf h,zlp n (n / 10+1) (n / 10) (by omega) (by omega)]
theorem zj0:∀ n:Nat,(zb5 n).length<=n+1:=fun n=>by
 have:∀ f n,(zrv f n).length<=f:=by
  intro f
  induction f with
  | zero=>intro n; simp[zrv]
  | succ f ih=>
   intro n
   rw[zrv]
   split
   ·simp
   ·have:=ih (n / 10); simp; omega
 exact this (n+1) n
theorem zn8:∀ (b n:Nat) (w:World),n<=b->n<=1000000000->Calls prog 84 #[.int .i64 (n:Int)] w fun e w'=>e = .returned (.string (zac (zb5 n)))/\Below w.heap.size w w':=by
 intro b
 induction b with
 | zero=>
  intro n w hn _
  obtain rfl:n=0:=by omega
  have hcv:=zbg w (zb5 0) #[.int .u8 48] 1 rfl rfl
  generalize zb5 0=u at *
  go_enter func84,ntmps84
  go_wp2
  go_ret
  exact⟨rfl,(yH _ _).alloc (ye _) _⟩
 | succ b ih=>
  intro n w hn hm
  by_cases h:n < 10
  ·have hcv:=zbg w (zb5 n) #[.int .u8 (48+(n:Int))] 1 (by rw[zbZ h]; rfl) (by rw[zbZ h]; simp[Lib.byteCells]; omega)
   have h1:(n:Int) < 10:=by omega
   generalize zb5 n=u at *
   clear ih
   go_enter func84,ntmps84
   go_wp2
   go_ret
   exact⟨rfl,(yH _ _).alloc (ye _) _⟩
  ·have h1:¬ (n:Int) < 10:=by omega
   have hd:(n:Int) / 10=((n / 10:Nat) : Int):=by omega
   have hr:(n:Int) % 10=((n % 10:Nat) : Int):=by omega
   have HA:Hid (∀ w,Calls prog 84 #[.int .i64 ((n / 10:Nat) : Int)] w fun e w'=>e = .returned (.string (zac (zb5 (n / 10))))/\Below w.heap.size w w'):=fun w=>ih (n / 10) w (by omega) (by omega)
   have HB:Hid (∀ w,Calls prog 84 #[.int .i64 ((n % 10:Nat) : Int)] w fun e w'=>e = .returned (.string (zac (zb5 (n % 10))))/\Below w.heap.size w w'):=fun w=>ih (n % 10) w (by omega) (by omega)
   have HE:Hid (zac (zb5 (n / 10))++zac (zb5 (n % 10))=zac (zb5 n)):=by show _=_; rw[zdp,← zgg h]
   have z1:(zac (zb5 (n / 10))).size<=1000000001:=by rw[zaf]; have:=zj0 (n / 10); omega
   have z2:(zac (zb5 (n % 10))).size<=1000000001:=by rw[zaf]; have:=zj0 (n % 10); omega
   have z3:(9223372036854775807 < (zac (zb5 (n / 10))).size+(zac (zb5 (n % 10))).size)=False:=yQ (by omega)
   generalize zac (zb5 n)=u at *
   generalize zac (zb5 (n / 10))=u1 at *
   generalize zac (zb5 (n % 10))=u2 at *
   generalize n / 10=q at *
   generalize n % 10=r at *
   clear ih h
   go_enter func84,ntmps84
   go_wp2_with fail
   refine (uh HA _).mono ?_
   rintro e w1 ⟨rfl,b1⟩
   go_wp2_with fail
   refine (uh HB _).mono ?_
   rintro e w2 ⟨rfl,b2⟩
   have B2:=zaa b1 b2
   clear HA HB
   go_wp2
   go_ret
   exact⟨by rw[← uh HE]; rfl,B2⟩
def ze7:Nat->List (List UInt8)->List (List UInt8×List UInt8)
 | _,[]=>[]
 | b,t :: r=>(zb5 b,t) :: ze7 (b+1) r
theorem zlq:∀ (a:List (List UInt8)) (b:Nat) (t:List UInt8),ze7 b (a++[t])=ze7 b a++[(zb5 (b+a.length),t)]
 | [],b,t=>rfl
 | x :: r,b,t=>by
  simp only[List.cons_append,ze7,zlq r (b+1) t,yn]
  rw[show b+1+r.length=b+(r.length+1) by omega]
theorem zcA:∀ (a:List (List UInt8)) (b:Nat),(ze7 b a).length=a.length
 | [],_=>rfl
 | _ :: r,b=>by simp[ze7,zcA r (b+1)]
def zae:JV->List (List UInt8×List UInt8)
 | .arr l=>ze7 0 (ctL l)
 | .obj m=>zaq (ctM m)
 | _=>[]
theorem ztE:∀ v:JV,okV v->ct v≠[]
 | .nul,_=>by simp[ct]
 | .tt,_=>by simp[ct]
 | .ff,_=>by simp[ct]
 | .num l,h=>(zdn h).1
 | .str l,_=>by simp[ct,quoted]
 | .arr l,_=>by simp[ct,mkA]
 | .obj m,_=>by simp[ct,mkO]
theorem zj1 (T:ByteArray) : ∀ l:JL,okL l->∀ t∈ctL l,zln T t/\t≠[]
 | .nil,_,t,ht=>by simp[ctL] at ht
 | .cons v r,h,t,ht=>by
  rw[okL] at h
  rw[ctL] at ht
  rcases List.mem_cons.1 ht with e | ht
  ·rw[e]; exact⟨(ctP v h.1).2,ztE v h.1⟩
  ·exact zj1 T r h.2 t ht
theorem zj2 (T:ByteArray) : ∀ m:JM,okM m->∀ p∈ctM m,zln T p.2/\p.2≠[]/\Lib.validD p.1=true
 | .nil,_,p,hp=>by simp[ctM] at hp
 | .cons k v r,h,p,hp=>by
  rw[okM] at h
  rw[ctM] at hp
  rcases List.mem_cons.1 hp with e | hp
  ·rw[e]; exact⟨(ctP v h.2.1).2,ztE v h.2.1,h.1⟩
  ·exact zj2 T r h.2.2 p hp
def pk (cs:List (List UInt8)) (k:Nat) : Nat:=1+(joinC (cs.take k)).length+(if k=0 then 0 else 1)
theorem zhY:∀ (cs:List (List UInt8)) (k:Nat),(h:k < cs.length)->joinT cs=joinT (cs.take k)++44 :: (cs[k]++joinT (cs.drop (k+1)))
 | t :: r,0,_=>by simp[joinT]
 | t :: r,k+1,h=>by
  have:=zhY r k (by simpa using h)
  simp only[List.take_succ_cons,joinT,List.getElem_cons_succ,List.drop_succ_cons]
  rw[this]; simp
theorem zm5 (cs:List (List UInt8)) (k:Nat) (h:k < cs.length) : joinC cs=(joinC (cs.take k)++(if k=0 then [] else [44]))++(cs[k]++joinT (cs.drop (k+1))):=by
 cases cs with
 | nil=>simp at h
 | cons t r=>
  cases k with
  | zero=>simp[joinC]
  | succ k=>
   have:=zhY r k (by simpa using h)
   simp only[joinC,List.take_succ_cons,List.getElem_cons_succ,List.drop_succ_cons]
   rw[this]
   simp
theorem zeI (cs:List (List UInt8)) (c:UInt8) (hc:c.toNat=93∨c.toNat=125) : zlm (joinT cs++[c]):=by
 cases cs with
 | nil=>exact .inr ⟨c,[],rfl,.inr hc⟩
 | cons t r=>exact .inr ⟨44,_,rfl,.inl rfl⟩
theorem zhZ {T:ByteArray} {cs:List (List UInt8)} {a c:UInt8} (hT:T.data.toList=a :: (joinC cs++[c])) (k:Nat) (h:k < cs.length) : T.data.toList.drop (pk cs k)=cs[k]++(joinT (cs.drop (k+1))++[c]):=by
 have e:T.data.toList=(a :: (joinC (cs.take k)++(if k=0 then [] else [44])))++(cs[k]++(joinT (cs.drop (k+1))++[c])):=by
  rw[hT,zm5 cs k h]; simp
 have hl:(a :: (joinC (cs.take k)++(if k=0 then [] else [44]))).length=pk cs k:=by
  unfold pk
  split <;> simp <;> omega
 rw[e,← hl,List.drop_left]
theorem zj3 (cs:List (List UInt8)) (k:Nat) (h:k < cs.length) : pk cs (k+1)=pk cs k+cs[k].length+1:=by
 have e:(joinC (cs.take (k+1))).length=(joinC (cs.take k)).length+(if k=0 then 0 else 1)+cs[k].length:=by
  rw[yy h,zeF]
  by_cases hk:k=0
  ·subst hk; simp[joinC]
  ·have hne:cs.take k≠[]:=by intro e; have:=congrArg List.length e; rw[ym,yD] at this; omega
   rw[yf hne,yf hk]
   simp; omega
 unfold pk
 rw[e,yf (Nat.succ_ne_zero k)]
 omega
theorem zrw {T:ByteArray} {cs:List (List UInt8)} {a c:UInt8} (hT:T.data.toList=a :: (joinC cs++[c])) (k:Nat) (h:k < cs.length) : pk cs k+cs[k].length+1<=T.size:=by
 have h1:=congrArg List.length (zhZ hT k h)
 rw[yu,zak] at h1
 simp at h1
 by_cases hle:pk cs k<=T.size
 ·omega
 ·omega
theorem zlr {T:ByteArray} {cs:List (List UInt8)} {a c:UInt8} (hT:T.data.toList=a :: (joinC cs++[c])) : T.size<=pk cs cs.length+1:=by
 have h1:=congrArg List.length hT
 rw[zak] at h1
 simp at h1
 unfold pk
 rw[yq (ye _)]
 omega
theorem zut {T:ByteArray} {i:Nat} {t m:List UInt8} (h:T.data.toList.drop i=t++m) : T.extract i (i+t.length)=zac t:=by
 rw[zaN]
 unfold zaX
 rw[h,Nat.add_sub_cancel_left]
 simp
theorem ziZ {s:ByteArray} {i:Nat} (h:s.size < i+6) : zed s i=none:=by
 cases e:zed s i with
 | none=>rfl
 | some u=>have:=zmX e; omega
theorem zaL (s:ByteArray) (i:Nat) (hs:s.size<=1048576) (hi:i<=2000000) (w:World) :
  Calls prog 150 #[.string s,.int .i64 i] w fun e w'=>w=w'/\e = .returned (.int .i64 (zxl (zed s i))):=by
 by_cases hlen:i+6<=s.size
 ·have hl':¬ (s.size:Int) < (i:Int)+6:=by omega
  have e0:=zas s i (by omega)
  have e1:=zas s (i+1) (by omega)
  by_cases h0:bt s i=92
  ·have q0:((s[i]'(by omega)).toNat:Int)=92:=by omega
   have t0:(((s[i]'(by omega)).toNat:Int) != 92)=false:=by rw[yM]; omega
   by_cases h1:bt s (i+1)=117
   ·have t1:(((s[i+1]'(by omega)).toNat:Int) != 117)=false:=by rw[yM]; omega
    have HU:Hid (zed s i=zfx s (i+2) 4):=by show _=_; unfold zed; rw[yg ⟨h0,h1⟩]
    have dl:decide ((s.size:Int) < (i:Int)+6)=false:=by simp; omega
    clear h0 h1 e0 e1 q0
    go_enter func150,ntmps150
    go_wp2
    clear t0 t1 dl hl'
    go_loopw [5,6] (fun v k wr=>∃ j u:Nat,j<=4/\k = .int .i64 ((j+2:Nat) : Int)/\u < 16 ^ j/\v = .int .i64 (u:Int)/\zfx s (i+2) j=some u/\w=wr) (fun _ k _=>6 - (intOf k).toNat)
    case atStart=>exact⟨0,0,by omega,rfl,by decide,rfl,rfl,rfl⟩
    case round=>
     obtain⟨j,u,hj,rfl,hu,rfl,hx,rfl⟩:=hrel
     have HV:=zab hx
     clear hx
     by_cases h4:j < 4
     ·have hu65:u < 65536:=by
       have:(16:Nat) ^ j<=16 ^ 3:=Nat.pow_le_pow_right (by decide) (by omega)
       omega
      have hin:i+(j+2) < s.size:=by omega
      have HC:=zab (zpt ((s[i+(j+2)]'hin).toNat) (UInt8.toNat_lt _) w)
      have eb:bt s (i+2+j)=(s[i+(j+2)]'hin).toNat:=by rw[show i+2+j=i+(j+2) from by omega]; exact zas s _ hin
      cases hx1:hx ((s[i+(j+2)]'hin).toNat) with
      | some d=>
       have hd:=zvA hx1
       have HX:=zab (zdl (uh HV) (by rw[eb]; exact hx1))
       rw[hx1] at HC
       have hd0:¬ ((d:Int) < 0):=by omega
       clear hx1 eb
       go_wp2_with fail
       refine (uh HC).mono ?_
       rintro e w1 ⟨rfl,rfl⟩
       clear HC
       simp only[zxl,Option.elim]
       go_wp2
       go_roundw
       case rel=>exact⟨j+1,u*16+d,by omega,by go_num,by rw[Nat.pow_succ]; omega,by go_num,uh HX,trivial⟩
       case measure=>simp[intOf]; omega
      | none=>
       have HX:Hid (zfx s (i+2) 4=none):=zhL (zgH (by rw[eb]; exact hx1)) (by omega)
       rw[hx1] at HC
       clear hx1 eb
       go_wp2_with fail
       refine (uh HC).mono ?_
       rintro e w1 ⟨rfl,rfl⟩
       clear HC
       simp only[zxl,Option.elim]
       go_wp2
       go_ret
       exact⟨rfl,by rw[uh HU,uh HX]; rfl⟩
     ·have e4:j=4:=by omega
      subst e4
      go_wp2
      go_ret
      exact⟨rfl,by rw[uh HU,uh HV]; rfl⟩
   ·have t1:(((s[i+1]'(by omega)).toNat:Int) != 117)=true:=by rw[bne_iff_ne]; omega
    have HU:Hid (zed s i=none):=by show _=_; unfold zed; rw[yf (fun h=>h1 h.2)]
    clear h0 h1 e0 e1 q0
    go_enter func150,ntmps150
    go_wp2
    go_ret
    exact⟨rfl,by rw[uh HU]; rfl⟩
  ·have t0:(((s[i]'(by omega)).toNat:Int) != 92)=true:=by rw[bne_iff_ne]; omega
   have HU:Hid (zed s i=none):=by show _=_; unfold zed; rw[yf (fun h=>h0 h.1)]
   clear h0 e0 e1
   go_enter func150,ntmps150
   go_wp2
   go_ret
   exact⟨rfl,by rw[uh HU]; rfl⟩
 ·have hl':(s.size:Int) < (i:Int)+6:=by omega
  have HU:=zab (ziZ (s:=s) (i:=i) (by omega))
  go_enter func150,ntmps150
  go_wp2
  go_ret
  exact⟨rfl,by rw[uh HU]; rfl⟩
theorem zrx {b:ByteArray} {l:List UInt8} (h:b.data.toList=l) : b=zac l:=by
 subst h
 cases b with
 | mk d=>simp[zac]
theorem zry (s:ByteArray) (i n:Nat) (l:List UInt8) (h:(s.data.toList.drop i).take n=l) : s.extract i (i+n)=zac l:=by
 refine zrx ?_
 rw[Lib.extract_data,show i+n - i=n from by omega,h]
theorem zvJ {r:Nat} (h:r < 128) : enc r=[UInt8.ofNat r]:=by
 unfold enc; rw[← zjV (by omega) (by omega)]; unfold utf zgv; rw[yg h]; rfl
theorem zj4 {r:Nat} (h:r<=1114111) (h':r < 55296∨57344<=r) : utf r=enc r:=zjV h h'
abbrev zj5 (w:World) (e:Ending) (w':World) : Prop:=(∃ t,e = .returned (.tuple #[.string t,.int .i64 0]))/\Below w.heap.size w w'
abbrev zm6 (w:World) (t:ByteArray) (n:Nat) (e:Ending) (w':World) : Prop:=e = .returned (.tuple #[.string t,.int .i64 (n:Int)])/\Below w.heap.size w w'
theorem zxp (s:ByteArray) (i:Nat) (w:World) (hs:s.size<=1048576) (hi:i < s.size) (h:128<=s[i].toNat) (hr:rl s i=0) :
  Calls prog 120 #[.string s,.int .i64 i] w (zj5 w):=by
 have HR:=zab (zmw s i w hi hs)
 rw[hr] at HR
 have h':(128:Int)<=(s[i].toNat:Int):=by omega
 clear hr
 go_enter func120,ntmps120
 go_wp2_with fail
 refine (uh HR).mono ?_
 rintro e w1 ⟨rfl,b1⟩
 clear HR
 go_wp2
 go_ret2
 exact⟨⟨_,rfl⟩,b1⟩
theorem ztF (s:ByteArray) (i:Nat) (w:World) (hs:s.size<=1048576) (hi:i < s.size) (h:128<=s[i].toNat) (hr:¬ rl s i=0) :
  Calls prog 120 #[.string s,.int .i64 i] w (zm6 w (zac (enc (Utf8.decode s i).1)) (rl s i)):=by
 have HR:=zab (zmw s i w hi hs)
 have hle:=zmx s i hi
 have HE:Hid (s.extract i (i+rl s i)=zac (enc (Utf8.decode s i).1)):=zry s i (rl s i) _ (zcJ s i hi hr (by omega)).1.symm
 have h':(128:Int)<=(s[i].toNat:Int):=by omega
 clear hr
 generalize zac (enc (Utf8.decode s i).1)=t at *
 generalize rl s i=n at *
 go_enter func120,ntmps120
 go_wp2_with fail
 refine (uh HR).mono ?_
 rintro e w1 ⟨rfl,b1⟩
 clear HR
 go_wp2
 go_ret2
 exact⟨by rw[← uh HE]; rfl,b1⟩
theorem zxq (s:ByteArray) (i:Nat) (w:World) (hi:i < s.size) (h:s[i].toNat < 32) :
  Calls prog 120 #[.string s,.int .i64 i] w (zj5 w):=by
 have h1:¬ (128:Int)<=(s[i].toNat:Int):=by omega
 have h2:((s[i].toNat:Int) != 92)=true:=by rw[bne_iff_ne]; omega
 have h3:(s[i].toNat:Int) < 32:=by omega
 go_enter func120,ntmps120
 go_wp2
 go_ret2
 exact⟨⟨_,rfl⟩,yH _ _⟩
theorem zxr (s:ByteArray) (i:Nat) (w:World) (hs:s.size<=1048576) (hi:i < s.size) (h32:32<=s[i].toNat) (h128:s[i].toNat < 128) (h92:s[i].toNat≠92) (h34:s[i].toNat≠34) :
  Calls prog 120 #[.string s,.int .i64 i] w (zm6 w (zac (enc s[i].toNat)) 1):=by
 have h1:¬ (128:Int)<=(s[i].toNat:Int):=by omega
 have h2:((s[i].toNat:Int) != 92)=true:=by rw[bne_iff_ne]; omega
 have h3:¬ (s[i].toNat:Int) < 32:=by omega
 have h4:((s[i].toNat:Int) == 34)=false:=by rw[yd]; omega
 have d3:decide ((s[i].toNat:Int) < 32)=false:=by simp; omega
 have HE:Hid (s.extract i (i+1)=zac (enc s[i].toNat)):=zry s i 1 _ (by rw[zvJ h128,zht,zax s i hi]; rfl)
 clear h32 h128 h92 h34
 go_enter func120,ntmps120
 go_wp2
 go_ret2
 exact⟨by rw[← uh HE]; rfl,yH _ _⟩
theorem zrz (s:ByteArray) (i:Nat) (w:World) (hs:s.size<=1048576) (hi:i+1 < s.size) (h:s[i].toNat=92) (v:Nat) (hv:smp s[i+1].toNat=some v) :
  Calls prog 120 #[.string s,.int .i64 i] w (zm6 w (zac (enc v)) 2):=by
 have h1:¬ (128:Int)<=(s[i].toNat:Int):=by omega
 have h2:((s[i].toNat:Int) != 92)=false:=by rw[yM]; omega
 have HS:Hid (∀ w,Calls prog 149 #[.int .u8 (s[i+1].toNat:Int)] w fun e w'=>e = .returned (.int .i64 (v:Int))/\Below w.heap.size w w'):=fun w=>by
  have c:=zaU s[i+1].toNat (UInt8.toNat_lt _) w
  rw[hv] at c; exact c
 have hv128:=zup hv
 have hu:utf v=enc v:=zj4 (by omega) (by omega)
 have HCV:Hid (∀ w:World,(convert 160 9 (.slice (some ⟨w.heap.size,0,none⟩) 1 1)).run prog (w.alloc (.cells #[.int .u8 (v:Int)] 5)) = .ok (.string (zac (enc v))) (w.alloc (.cells #[.int .u8 (v:Int)] 5))):=fun w=>by
  rw[← hu]
  exact zbg w (utf v) #[.int .u8 (v:Int)] 1 (by simp[utf,zgv,hv128]) (by simp[utf,zgv,hv128,Lib.byteCells]; omega)
 have hv0:(0:Int)<=(v:Int):=by omega
 have i1:(i:Int)+1 < (s.size:Int):=by omega
 clear hu hv
 generalize zac (enc v)=t at *
 go_enter func120,ntmps120
 go_wp2_with fail
 refine (uh HS _).mono ?_
 rintro e w1 ⟨rfl,b1⟩
 go_wp2_with fail
 refine (uh HS _).mono ?_
 rintro e w2 ⟨rfl,b2⟩
 have B2:=zaa b1 b2
 have hcv:=uh HCV w2
 clear HS HCV b1 b2
 go_wp2
 go_ret2
 exact⟨rfl,B2.alloc B2.size _⟩
theorem zxs (s:ByteArray) (i:Nat) (w:World) (hs:s.size<=1048576) (hi:i < s.size) (hi':¬ i+1 < s.size) (h:s[i].toNat=92) :
  Calls prog 120 #[.string s,.int .i64 i] w (zj5 w):=by
 have h1:¬ (128:Int)<=(s[i].toNat:Int):=by omega
 have h2:((s[i].toNat:Int) != 92)=false:=by rw[yM]; omega
 have HU:Hid (∀ w,Calls prog 150 #[.string s,.int .i64 ((i:Int))] w fun e w'=>w=w'/\e = .returned (.int .i64 (-1))):=fun w=>by
  have c:=zaL s i hs (by omega) w
  rw[ziZ (by omega)] at c; exact c
 have i1:¬ (i:Int)+1 < (s.size:Int):=by omega
 have di:decide ((i:Int)+1 < (s.size:Int))=false:=by simp; omega
 go_enter func120,ntmps120
 go_wp2_with fail
 refine (uh HU _).mono ?_
 rintro e w2 ⟨rfl,rfl⟩
 clear HU
 go_wp2
 go_ret2
 exact⟨⟨_,rfl⟩,yH _ _⟩
theorem zrA (s:ByteArray) (i:Nat) (w:World) (hs:s.size<=1048576) (hi:i+1 < s.size) (h:s[i].toNat=92) (hv:smp s[i+1].toNat=none) (hu:zed s i=none) :
  Calls prog 120 #[.string s,.int .i64 i] w (zj5 w):=by
 have h1:¬ (128:Int)<=(s[i].toNat:Int):=by omega
 have h2:((s[i].toNat:Int) != 92)=false:=by rw[yM]; omega
 have HS:Hid (∀ w,Calls prog 149 #[.int .u8 (s[i+1].toNat:Int)] w fun e w'=>e = .returned (.int .i64 (-1))/\Below w.heap.size w w'):=fun w=>by
  have c:=zaU s[i+1].toNat (UInt8.toNat_lt _) w
  rw[hv] at c; exact c
 have i1:(i:Int)+1 < (s.size:Int):=by omega
 have HU:Hid (∀ w,Calls prog 150 #[.string s,.int .i64 ((i:Int))] w fun e w'=>w=w'/\e = .returned (.int .i64 (-1))):=fun w=>by
  have c:=zaL s i hs (by omega) w
  rw[hu] at c; exact c
 clear hv hu
 go_enter func120,ntmps120
 go_wp2_with fail
 refine (uh HS _).mono ?_
 rintro e w1 ⟨rfl,b1⟩
 go_wp2_with fail
 refine (uh HU _).mono ?_
 rintro e w2 ⟨rfl,rfl⟩
 clear HS HU
 go_wp2
 go_ret2
 exact⟨⟨_,rfl⟩,b1⟩
theorem zxt (s:ByteArray) (i:Nat) (w:World) (hs:s.size<=1048576) (hi:i+1 < s.size) (h:s[i].toNat=92) (hv:smp s[i+1].toNat=none) (u:Nat) (hu:zed s i=some u)  (hlow:u < 55296) :
  Calls prog 120 #[.string s,.int .i64 i] w (zm6 w (zac (enc u)) 6):=by
 have h1:¬ (128:Int)<=(s[i].toNat:Int):=by omega
 have h2:((s[i].toNat:Int) != 92)=false:=by rw[yM]; omega
 have HS:Hid (∀ w,Calls prog 149 #[.int .u8 (s[i+1].toNat:Int)] w fun e w'=>e = .returned (.int .i64 (-1))/\Below w.heap.size w w'):=fun w=>by
  have c:=zaU s[i+1].toNat (UInt8.toNat_lt _) w
  rw[hv] at c; exact c
 have i1:(i:Int)+1 < (s.size:Int):=by omega
 have HU:Hid (∀ w,Calls prog 150 #[.string s,.int .i64 ((i:Int))] w fun e w'=>w=w'/\e = .returned (.int .i64 ((u:Int)))):=fun w=>by
  have c:=zaL s i hs (by omega) w
  rw[hu] at c; exact c
 have HV:Hid (∀ w,Calls prog 151 #[.int .i64 (u:Int)] w fun e w'=>e = .returned (.string (zac (enc u)))/\Below w.heap.size w w'):=fun w=>by
  have c:=zgT u w (by omega)
  rw[zj4 (by omega) (by omega)] at c; exact c
 have u0:((u:Int) < 0)=False:=yQ (by omega)
 have u1:((56320:Int)<=(u:Int))=False:=yQ (by omega)
 have u2:((u:Int) < 55296)=True:=eq_true (by omega)
 clear hv hu
 generalize zac (enc u)=t at *
 go_enter func120,ntmps120
 go_wp2_with fail
 refine (uh HS _).mono ?_
 rintro e w1 ⟨rfl,b1⟩
 go_wp2_with fail
 refine (uh HU _).mono ?_
 rintro e w2 ⟨rfl,rfl⟩
 clear HS HU
 go_wp2_with fail
 refine (uh HV _).mono ?_
 rintro e w3 ⟨rfl,b3⟩
 have B3:=zaa b1 b3
 clear HV
 go_wp2
 go_ret2
 exact⟨rfl,B3⟩
theorem zvK (s:ByteArray) (i:Nat) (w:World) (hs:s.size<=1048576) (hi:i+1 < s.size) (h:s[i].toNat=92) (hv:smp s[i+1].toNat=none) (u:Nat) (hu:zed s i=some u)  (hhi:57344<=u) (hu65:u<=65535) :
  Calls prog 120 #[.string s,.int .i64 i] w (zm6 w (zac (enc u)) 6):=by
 have h1:¬ (128:Int)<=(s[i].toNat:Int):=by omega
 have h2:((s[i].toNat:Int) != 92)=false:=by rw[yM]; omega
 have HS:Hid (∀ w,Calls prog 149 #[.int .u8 (s[i+1].toNat:Int)] w fun e w'=>e = .returned (.int .i64 (-1))/\Below w.heap.size w w'):=fun w=>by
  have c:=zaU s[i+1].toNat (UInt8.toNat_lt _) w
  rw[hv] at c; exact c
 have i1:(i:Int)+1 < (s.size:Int):=by omega
 have HU:Hid (∀ w,Calls prog 150 #[.string s,.int .i64 ((i:Int))] w fun e w'=>w=w'/\e = .returned (.int .i64 ((u:Int)))):=fun w=>by
  have c:=zaL s i hs (by omega) w
  rw[hu] at c; exact c
 have HV:Hid (∀ w,Calls prog 151 #[.int .i64 (u:Int)] w fun e w'=>e = .returned (.string (zac (enc u)))/\Below w.heap.size w w'):=fun w=>by
  have c:=zgT u w (by omega)
  rw[zj4 (by omega) (by omega)] at c; exact c
 have u0:((u:Int) < 0)=False:=yQ (by omega)
 have u1:((56320:Int)<=(u:Int))=True:=eq_true (by omega)
 have u2:((u:Int) < 57344)=False:=yQ (by omega)
 have u3:((u:Int) < 55296)=False:=yQ (by omega)
 have u4:((57344:Int)<=(u:Int))=True:=eq_true (by omega)
 clear hv hu
 generalize zac (enc u)=t at *
 go_enter func120,ntmps120
 go_wp2_with fail
 refine (uh HS _).mono ?_
 rintro e w1 ⟨rfl,b1⟩
 go_wp2_with fail
 refine (uh HU _).mono ?_
 rintro e w2 ⟨rfl,rfl⟩
 clear HS HU
 go_wp2_with fail
 refine (uh HV _).mono ?_
 rintro e w3 ⟨rfl,b3⟩
 have B3:=zaa b1 b3
 clear HV
 go_wp2
 go_ret2
 exact⟨rfl,B3⟩
theorem zvL (s:ByteArray) (i:Nat) (w:World) (hs:s.size<=1048576) (hi:i+1 < s.size) (h:s[i].toNat=92) (hv:smp s[i+1].toNat=none) (u:Nat) (hu:zed s i=some u)  (hlo:56320<=u) (hhi:u<=57343) :
  Calls prog 120 #[.string s,.int .i64 i] w (zj5 w):=by
 have h1:¬ (128:Int)<=(s[i].toNat:Int):=by omega
 have h2:((s[i].toNat:Int) != 92)=false:=by rw[yM]; omega
 have HS:Hid (∀ w,Calls prog 149 #[.int .u8 (s[i+1].toNat:Int)] w fun e w'=>e = .returned (.int .i64 (-1))/\Below w.heap.size w w'):=fun w=>by
  have c:=zaU s[i+1].toNat (UInt8.toNat_lt _) w
  rw[hv] at c; exact c
 have i1:(i:Int)+1 < (s.size:Int):=by omega
 have HU:Hid (∀ w,Calls prog 150 #[.string s,.int .i64 ((i:Int))] w fun e w'=>w=w'/\e = .returned (.int .i64 ((u:Int)))):=fun w=>by
  have c:=zaL s i hs (by omega) w
  rw[hu] at c; exact c
 have u0:((u:Int) < 0)=False:=yQ (by omega)
 have u1:((56320:Int)<=(u:Int))=True:=eq_true (by omega)
 have u2:((u:Int) < 57344)=True:=eq_true (by omega)
 clear hv hu
 go_enter func120,ntmps120
 go_wp2_with fail
 refine (uh HS _).mono ?_
 rintro e w1 ⟨rfl,b1⟩
 go_wp2_with fail
 refine (uh HU _).mono ?_
 rintro e w2 ⟨rfl,rfl⟩
 clear HS HU
 go_wp2
 go_ret2
 exact⟨⟨_,rfl⟩,b1⟩
theorem zxu (s:ByteArray) (i:Nat) (w:World) (hs:s.size<=1048576) (hi:i+1 < s.size) (h:s[i].toNat=92) (hv:smp s[i+1].toNat=none) (u:Nat) (hu:zed s i=some u)  (hlo:55296<=u) (hhi:u<=56319) (hu2:zed s (i+6)=none) :
  Calls prog 120 #[.string s,.int .i64 i] w (zj5 w):=by
 have h1:¬ (128:Int)<=(s[i].toNat:Int):=by omega
 have h2:((s[i].toNat:Int) != 92)=false:=by rw[yM]; omega
 have HS:Hid (∀ w,Calls prog 149 #[.int .u8 (s[i+1].toNat:Int)] w fun e w'=>e = .returned (.int .i64 (-1))/\Below w.heap.size w w'):=fun w=>by
  have c:=zaU s[i+1].toNat (UInt8.toNat_lt _) w
  rw[hv] at c; exact c
 have i1:(i:Int)+1 < (s.size:Int):=by omega
 have HU:Hid (∀ w,Calls prog 150 #[.string s,.int .i64 ((i:Int))] w fun e w'=>w=w'/\e = .returned (.int .i64 ((u:Int)))):=fun w=>by
  have c:=zaL s i hs (by omega) w
  rw[hu] at c; exact c
 have HU2:Hid (∀ w,Calls prog 150 #[.string s,.int .i64 ((i:Int)+6)] w fun e w'=>w=w'/\e = .returned (.int .i64 (-1))):=fun w=>by
  have c:=zaL s (i+6) hs (by omega) w
  rw[hu2] at c; exact c
 have u0:((u:Int) < 0)=False:=yQ (by omega)
 have u1:((56320:Int)<=(u:Int))=False:=yQ (by omega)
 have u2:((u:Int) < 55296)=False:=yQ (by omega)
 have u3:((57344:Int)<=(u:Int))=False:=yQ (by omega)
 clear hv hu hu2
 go_enter func120,ntmps120
 go_wp2_with fail
 refine (uh HS _).mono ?_
 rintro e w1 ⟨rfl,b1⟩
 go_wp2_with fail
 refine (uh HU _).mono ?_
 rintro e w2 ⟨rfl,rfl⟩
 go_wp2_with fail
 refine (uh HU2 _).mono ?_
 rintro e w3 ⟨rfl,rfl⟩
 clear HS HU HU2
 go_wp2
 go_ret2
 exact⟨⟨_,rfl⟩,b1⟩
theorem zxv (s:ByteArray) (i:Nat) (w:World) (hs:s.size<=1048576) (hi:i+1 < s.size) (h:s[i].toNat=92) (hv:smp s[i+1].toNat=none) (u:Nat) (hu:zed s i=some u)  (hlo:55296<=u) (hhi:u<=56319) (v:Nat) (hu2:zed s (i+6)=some v) (hv2:v<=56319) :
  Calls prog 120 #[.string s,.int .i64 i] w (zj5 w):=by
 have h1:¬ (128:Int)<=(s[i].toNat:Int):=by omega
 have h2:((s[i].toNat:Int) != 92)=false:=by rw[yM]; omega
 have HS:Hid (∀ w,Calls prog 149 #[.int .u8 (s[i+1].toNat:Int)] w fun e w'=>e = .returned (.int .i64 (-1))/\Below w.heap.size w w'):=fun w=>by
  have c:=zaU s[i+1].toNat (UInt8.toNat_lt _) w
  rw[hv] at c; exact c
 have i1:(i:Int)+1 < (s.size:Int):=by omega
 have HU:Hid (∀ w,Calls prog 150 #[.string s,.int .i64 ((i:Int))] w fun e w'=>w=w'/\e = .returned (.int .i64 ((u:Int)))):=fun w=>by
  have c:=zaL s i hs (by omega) w
  rw[hu] at c; exact c
 have HU2:Hid (∀ w,Calls prog 150 #[.string s,.int .i64 ((i:Int)+6)] w fun e w'=>w=w'/\e = .returned (.int .i64 ((v:Int)))):=fun w=>by
  have c:=zaL s (i+6) hs (by omega) w
  rw[hu2] at c; exact c
 have u0:((u:Int) < 0)=False:=yQ (by omega)
 have u1:((56320:Int)<=(u:Int))=False:=yQ (by omega)
 have u2:((u:Int) < 55296)=False:=yQ (by omega)
 have u3:((57344:Int)<=(u:Int))=False:=yQ (by omega)
 have v1:((v:Int) < 56320)=True:=eq_true (by omega)
 clear hv hu hu2
 go_enter func120,ntmps120
 go_wp2_with fail
 refine (uh HS _).mono ?_
 rintro e w1 ⟨rfl,b1⟩
 go_wp2_with fail
 refine (uh HU _).mono ?_
 rintro e w2 ⟨rfl,rfl⟩
 go_wp2_with fail
 refine (uh HU2 _).mono ?_
 rintro e w3 ⟨rfl,rfl⟩
 clear HS HU HU2
 go_wp2
 go_ret2
 exact⟨⟨_,rfl⟩,b1⟩
theorem zxw (s:ByteArray) (i:Nat) (w:World) (hs:s.size<=1048576) (hi:i+1 < s.size) (h:s[i].toNat=92) (hv:smp s[i+1].toNat=none) (u:Nat) (hu:zed s i=some u)  (hlo:55296<=u) (hhi:u<=56319) (v:Nat) (hu2:zed s (i+6)=some v) (hv2:57344<=v) :
  Calls prog 120 #[.string s,.int .i64 i] w (zj5 w):=by
 have h1:¬ (128:Int)<=(s[i].toNat:Int):=by omega
 have h2:((s[i].toNat:Int) != 92)=false:=by rw[yM]; omega
 have HS:Hid (∀ w,Calls prog 149 #[.int .u8 (s[i+1].toNat:Int)] w fun e w'=>e = .returned (.int .i64 (-1))/\Below w.heap.size w w'):=fun w=>by
  have c:=zaU s[i+1].toNat (UInt8.toNat_lt _) w
  rw[hv] at c; exact c
 have i1:(i:Int)+1 < (s.size:Int):=by omega
 have HU:Hid (∀ w,Calls prog 150 #[.string s,.int .i64 ((i:Int))] w fun e w'=>w=w'/\e = .returned (.int .i64 ((u:Int)))):=fun w=>by
  have c:=zaL s i hs (by omega) w
  rw[hu] at c; exact c
 have HU2:Hid (∀ w,Calls prog 150 #[.string s,.int .i64 ((i:Int)+6)] w fun e w'=>w=w'/\e = .returned (.int .i64 ((v:Int)))):=fun w=>by
  have c:=zaL s (i+6) hs (by omega) w
  rw[hu2] at c; exact c
 have u0:((u:Int) < 0)=False:=yQ (by omega)
 have u1:((56320:Int)<=(u:Int))=False:=yQ (by omega)
 have u2:((u:Int) < 55296)=False:=yQ (by omega)
 have u3:((57344:Int)<=(u:Int))=False:=yQ (by omega)
 have v1:((v:Int) < 56320)=False:=yQ (by omega)
 have v2:((57344:Int)<=(v:Int))=True:=eq_true (by omega)
 clear hv hu hu2
 go_enter func120,ntmps120
 go_wp2_with fail
 refine (uh HS _).mono ?_
 rintro e w1 ⟨rfl,b1⟩
 go_wp2_with fail
 refine (uh HU _).mono ?_
 rintro e w2 ⟨rfl,rfl⟩
 go_wp2_with fail
 refine (uh HU2 _).mono ?_
 rintro e w3 ⟨rfl,rfl⟩
 clear HS HU HU2
 go_wp2
 go_ret2
 exact⟨⟨_,rfl⟩,b1⟩
theorem zvM (s:ByteArray) (i:Nat) (w:World) (hs:s.size<=1048576) (hi:i+1 < s.size) (h:s[i].toNat=92) (hv:smp s[i+1].toNat=none) (u:Nat) (hu:zed s i=some u)  (hlo:55296<=u) (hhi:u<=56319) (v:Nat) (hu2:zed s (i+6)=some v) (hlo2:56320<=v) (hhi2:v<=57343) :
  Calls prog 120 #[.string s,.int .i64 i] w (zm6 w (zac (enc (65536+(u - 55296)*1024+(v - 56320)))) 12):=by
 have h1:¬ (128:Int)<=(s[i].toNat:Int):=by omega
 have h2:((s[i].toNat:Int) != 92)=false:=by rw[yM]; omega
 have HS:Hid (∀ w,Calls prog 149 #[.int .u8 (s[i+1].toNat:Int)] w fun e w'=>e = .returned (.int .i64 (-1))/\Below w.heap.size w w'):=fun w=>by
  have c:=zaU s[i+1].toNat (UInt8.toNat_lt _) w
  rw[hv] at c; exact c
 have i1:(i:Int)+1 < (s.size:Int):=by omega
 have HU:Hid (∀ w,Calls prog 150 #[.string s,.int .i64 ((i:Int))] w fun e w'=>w=w'/\e = .returned (.int .i64 ((u:Int)))):=fun w=>by
  have c:=zaL s i hs (by omega) w
  rw[hu] at c; exact c
 have HU2:Hid (∀ w,Calls prog 150 #[.string s,.int .i64 ((i:Int)+6)] w fun e w'=>w=w'/\e = .returned (.int .i64 ((v:Int)))):=fun w=>by
  have c:=zaL s (i+6) hs (by omega) w
  rw[hu2] at c; exact c
 have u0:((u:Int) < 0)=False:=yQ (by omega)
 have u1:((56320:Int)<=(u:Int))=False:=yQ (by omega)
 have u2:((u:Int) < 55296)=False:=yQ (by omega)
 have u3:((57344:Int)<=(u:Int))=False:=yQ (by omega)
 have v1:((v:Int) < 56320)=False:=yQ (by omega)
 have v2:((57344:Int)<=(v:Int))=False:=yQ (by omega)
 have HV:Hid (∀ w,Calls prog 151 #[.int .i64 (65536+((u:Int) - 55296)*1024+(v:Int) - 56320)] w fun e w'=>e = .returned (.string (zac (enc (65536+(u - 55296)*1024+(v - 56320)))))/\Below w.heap.size w w'):=fun w=>by
  have c:=ze2 (65536+((u:Int) - 55296)*1024+(v:Int) - 56320) (65536+(u - 55296)*1024+(v - 56320)) (by omega) w (by omega)
  rw[zj4 (by omega) (by omega)] at c; exact c
 clear hv hu hu2
 generalize zac (enc (65536+(u - 55296)*1024+(v - 56320)))=t at *
 go_enter func120,ntmps120
 go_wp2_with fail
 refine (uh HS _).mono ?_
 rintro e w1 ⟨rfl,b1⟩
 go_wp2_with fail
 refine (uh HU _).mono ?_
 rintro e w2 ⟨rfl,rfl⟩
 go_wp2_with fail
 refine (uh HU2 _).mono ?_
 rintro e w3 ⟨rfl,rfl⟩
 clear HS HU HU2
 go_wp2_with fail
 refine (uh HV _).mono ?_
 rintro e w4 ⟨rfl,b4⟩
 have B4:=zaa b1 b4
 clear HV
 go_wp2
 go_ret2
 exact⟨rfl,B4⟩
def zyn (w:World) (o:Option (Nat×Nat)) (e:Ending) (w':World) : Prop:=o.elim (zj5 w e w') fun p=>zm6 w (zac (enc p.1)) p.2 e w'
theorem zls (s:ByteArray) (i:Nat) (w:World) (hs:s.size<=1048576) (hi:i < s.size) (hq:bt s i≠34) :
  Calls prog 120 #[.string s,.int .i64 i] w (zyn w (piece s i)):=by
 have e0:=zas s i hi
 by_cases h92:bt s i=92
 ·have hp:piece s i=ziY s i:=by unfold piece; rw[yg h92]
  rw[hp]
  by_cases hi1:i+1 < s.size
  ·have e1:=zas s (i+1) hi1
   cases hv:smp (bt s (i+1)) with
   | some v=>
    rw[zeU rfl hv]
    exact zrz s i w hs hi1 (by omega) v (by rw[← e1]; exact hv)
   | none=>
    have hv':smp s[i+1].toNat=none:=by rw[← e1]; exact hv
    have he:ziY s i=(zed s i).bind (zgI s i):=by unfold ziY; rw[hv]
    rw[he]
    cases hu:zed s i with
    | none=>exact zrA s i w hs hi1 (by omega) hv' hu
    | some u=>
     have hu65:=zrd hu
     simp only[yA]
     unfold zgI
     by_cases h1:u < 55296∨57344<=u
     ·rw[yg h1]
      rcases h1 with h1 | h1
      ·exact zxt s i w hs hi1 (by omega) hv' u hu h1
      ·exact zvK s i w hs hi1 (by omega) hv' u hu h1 (by omega)
     ·rw[yf h1]
      by_cases h2:56320<=u
      ·rw[yg h2]
       exact zvL s i w hs hi1 (by omega) hv' u hu h2 (by omega)
      ·rw[yf h2]
       cases hu2:zed s (i+6) with
       | none=>exact zxu s i w hs hi1 (by omega) hv' u hu (by omega) (by omega) hu2
       | some v=>
        simp only[yA]
        by_cases h3:56320<=v/\v < 57344
        ·rw[yg h3]
         exact zvM s i w hs hi1 (by omega) hv' u hu (by omega) (by omega) v hu2 h3.1 (by omega)
        ·rw[yf h3]
         by_cases h4:v < 56320
         ·exact zxv s i w hs hi1 (by omega) hv' u hu (by omega) (by omega) v hu2 (by omega)
         ·exact zxw s i w hs hi1 (by omega) hv' u hu (by omega) (by omega) v hu2 (by omega)
  ·have he:ziY s i=none:=zrg (b:=0) (zcL s (i+1) (by omega)) (by rfl) (by decide)
   rw[he]
   exact zxs s i w hs hi hi1 (by omega)
 ·unfold piece
  rw[yf h92]
  by_cases h32:bt s i < 32
  ·rw[yg h32]; exact zxq s i w hi (by omega)
  ·rw[yf h32]
   by_cases h128:bt s i < 128
   ·rw[yg h128,e0]; exact zxr s i w hs hi (by omega) (by omega) (by omega) (by omega)
   ·rw[yf h128]
    by_cases hr:rl s i=0
    ·rw[yg hr]; exact zxp s i w hs hi (by omega) hr
    ·rw[yf hr]; exact ztF s i w hs hi (by omega) hr
def zrB (s:ByteArray) (w:World) (o:Option (List UInt8×Nat)) (e:Ending) (w':World) : Prop:=
 Below w.heap.size w w'/\o.elim (∃ (t:ByteArray) (k:Nat),k<=s.size+1/\t.size<=4*s.size+4/\e = .returned (.tuple #[.string t,.int .i64 (k:Int),.bool false])) fun q=>e = .returned (.tuple #[.string (zac q.1),.int .i64 (q.2:Int),.bool true])
theorem zbv (s:ByteArray) (i:Nat) (w:World) (hs:s.size<=1048576) (hi:i<=s.size+1) :
  Calls prog 85 #[.string s,.int .i64 i] w (zrB s w (zcM s i)):=by
 obtain⟨i0,hi0,hz0,hz1,hz2⟩:=info_parts zkj
 by_cases h34:bt s i=34
 ·have hlt:i < s.size:=zaw (by rw[h34]; decide)
  have HQ:Hid (zcM s i=zfO s (i+1)):=by show _=_; unfold zcM; rw[yg h34]
  have ha:atB s i 34=true:=by rw[zdX hlt,yC,← zas s i hlt,h34]; rfl
  have HA:=zab (zdt s (i:Int) i rfl 34 w)
  rw[ha] at HA
  clear h34 ha
  go_enter func85,ntmps85
  go_wp2_with fail
  refine (uh HA).mono ?_
  rintro e w1 ⟨rfl,rfl⟩
  clear HA
  go_wp2
  go_loopw [1,7] (fun k v wr=>∃ (j:Nat) (acc:List UInt8),j<=s.size/\k = .int .i64 (j:Int)/\acc.length<=4*j/\wr.ownsRow w.heap.size 5 1 v (Lib.byteCells acc).length (Lib.byteCells acc)/\Below w.heap.size w wr/\zfO s (i+1)=(zfO s j).map fun q=>(acc++q.1,q.2)) (fun k _ _=>s.size - (intOf k).toNat)
  case atStart=>
   exact⟨i+1,[],by omega,by go_num,by simp,⟨rfl,.inr ⟨w.heap.size,0,#[],rfl,ye _,yG w _,ye _,by unfold maxLen; omega,rfl,rfl⟩⟩,(yH _ _).alloc (ye _) _,by simp⟩
  case round=>
   obtain⟨j,acc,hj,rfl,hal,hown,hb,hst⟩:=hrel
   have HST:=zab hst
   have HB:=zab hb
   have hwsz:=hb.size
   clear hst hb
   by_cases hin:j < s.size
   ·have e0:=zas s j hin
    have hin':(j:Int) < (s.size:Int):=by omega
    by_cases e34:bt s j=34
    ·have t1:((s[j].toNat:Int) != 34)=false:=by rw[yM]; omega
     have HF:Hid (zcM s i=some (acc,j+1)):=by
      show _=_
      rw[uh HQ,uh HST,zdH e34]; simp
     have hcv:=zb7 hown
     clear hown e34 e0
     go_wp2
     go_ret3
     exact⟨uh HB,by rw[uh HF]; rfl⟩
    ·have t1:((s[j].toNat:Int) != 34)=true:=by rw[bne_iff_ne]; omega
     have HC:=zab (zls s j wr hs hin e34)
     cases hp:piece s j with
     | none=>
      have HF:Hid (zcM s i=none):=by
       show _=_
       rw[uh HQ,uh HST,zdI e34 hp]; rfl
      rw[hp] at HC
      clear hown e34 e0 hp
      go_wp2_with fail
      refine (uh HC).mono ?_
      rintro e w2 ⟨⟨t,rfl⟩,b2⟩
      have B2:=zaa (uh HB) b2
      clear HC
      go_wp2
      go_ret3
      exact⟨B2,by rw[uh HF]; exact⟨_,j,by omega,yt _,rfl⟩⟩
     | some p=>
      obtain⟨r,n⟩:=p
      obtain⟨p1,p2,p3⟩:=zcW hp
      have hel:=zn3 r
      have HST2:Hid (zfO s (i+1)=(zfO s (j+n)).map fun q=>(acc++enc r++q.1,q.2)):=by
       show _=_
       rw[uh HST,zee e34 hp,Option.map_map]
       congr 1
       funext q
       simp
      rw[hp] at HC
      have t0:((n:Int) == 0)=false:=by rw[yd]; omega
      clear e34 e0 hp
      go_wp2_with fail
      refine (uh HC).mono ?_
      rintro e w2 ⟨rfl,b2⟩
      have B2:=zaa (uh HB) b2
      have own2:=zaj hown b2
      obtain⟨cap,W3,hcv,hcell,b3,hk3,hs3⟩:=zc7 w2 (enc r)
      have own3:=hk3 _ _ _ _ _ own2
      have B3:=zaa B2 b3
      have HCELL:=zab hcell
      have hsz2:=B2.size
      clear HC hcell hk3 own2 hown b2 b3 HB B2
      go_wp2_with (at_builtin; refine wpList_append_own _ rfl (.tmp 37) (.tmp 39) 160 rfl w.heap.size 5 i0 (.int .u8 0) 1 1 underlying160 hi0 hz0 hz1 hz2 rfl (by decide) _ _ _ rfl own3 ⟨w2.heap.size,0,none⟩ (enc r).length cap (Lib.byteCells (enc r)) rfl (by rw[yK]; omega) (uh HCELL) (zdY (enc r)) (by rw[yK]; unfold maxLen; omega) (by rw[yK]; omega) (by omega) ?_)
      intro v4 w4 own4 hg4 _
      have B4:Below w.heap.size w w4:=B3.grown hg4 (by omega) (fun k hk=>(own3.lt k hk).1)
      have own4':=zaI (m:=(enc r)) own4 rfl rfl
      clear own4 hg4 own3 HCELL B3 hcv
      go_wp2
      go_roundw
      case rel=>exact⟨j+n,acc++(enc r),by omega,by go_num,by rw[yh]; omega,own4',B4,uh HST2⟩
      case measure=>simp[intOf]; omega
   ·have hin':¬ (j:Int) < (s.size:Int):=by omega
    have d1:decide ((j:Int) < (s.size:Int))=false:=by simp; omega
    have HF:Hid (zcM s i=none):=by
     show _=_
     rw[uh HQ,uh HST,zty (by omega)]; rfl
    have hcv:=zb7 hown
    clear hown
    go_wp2
    go_ret3
    exact⟨uh HB,by rw[uh HF]; exact⟨_,j+1,by omega,by show acc.toArray.size<=_; simp; omega,rfl⟩⟩
 ·have HQ:Hid (zcM s i=none):=by show _=_; unfold zcM; rw[yf h34]
  have ha:atB s i 34=false:=by
   by_cases hlt:i < s.size
   ·rw[zdX hlt,yd,← zas s i hlt]; omega
   ·exact zfQ hlt
  have HA:=zab (zdt s (i:Int) i rfl 34 w)
  rw[ha] at HA
  clear h34 ha
  go_enter func85,ntmps85
  go_wp2_with fail
  refine (uh HA).mono ?_
  rintro e w1 ⟨rfl,rfl⟩
  clear HA
  go_wp2
  go_ret3
  exact⟨yH _ _,by rw[uh HQ]; exact⟨_,i,hi,yt _,rfl⟩⟩
theorem zuu {T:ByteArray} {j j2:Nat} (h:nxt T j=some j2) (hj:j < T.size) : j < j2/\j2<=T.size:=by
 unfold nxt at h
 split at h
 ·cases hq:zcM T j with
  | none=>rw[hq] at h; simp at h
  | some q=>
   obtain⟨l,n⟩:=q
   rw[hq] at h
   simp at h
   have:=zce hq
   omega
 ·injection h with h; omega
theorem zpu {T:ByteArray} {o n k g:Nat} (hj:n<=T.size) (h:(if o=0/\zej T n=true then some n else zfz T g o n)=some k) :
  ((¬ o=0∨o=0/\n < T.size/\¬ bt T n=44/\¬ bt T n=93/\¬ bt T n=125)/\zfz T g o n=some k)∨((o=0/\n=T.size∨o=0/\n < T.size/\(bt T n=44∨bt T n=93∨bt T n=125))/\n=k):=by
 by_cases ho:o=0
 ·by_cases hs:zej T n=true
  ·rw[yg ⟨ho,hs⟩] at h
   injection h with h
   refine .inr ⟨?_,h⟩
   by_cases e:n=T.size
   ·exact .inl ⟨ho,e⟩
   ·unfold zej at hs
    simp[e] at hs
    exact .inr ⟨ho,by omega,by omega⟩
  ·rw[yf (fun x=>hs x.2)] at h
   unfold zej at hs
   simp at hs
   exact .inl ⟨.inr ⟨ho,by omega,hs.1.1.2,hs.1.2,hs.2⟩,h⟩
 ·rw[yf (fun x=>ho x.1)] at h
  exact .inl ⟨.inl ho,h⟩
theorem zlt {T:ByteArray} {j n:Nat} (hn:nxt T j=some n) : (bt T j≠34->j+1=n)/\(bt T j=34->∃ l,zcM T j=some (l,n)):=by
 unfold nxt at hn
 refine⟨fun h=>by rw[yf h] at hn; injection hn,fun h=>?_⟩
 rw[yg h] at hn
 cases hq:zcM T j with
 | none=>rw[hq] at hn; simp at hn
 | some q=>rw[hq] at hn; simp at hn; exact⟨q.1,by rw[← hn]⟩
theorem zj6 {c op o:Nat} (ho:op1 c op=some o) : (c=91/\(op:Int)+1=(o:Int))∨(c=123/\(op:Int)+1=(o:Int))∨(c=93/\(op:Int) - 1=(o:Int))∨(c=125/\(op:Int) - 1=(o:Int))∨(¬ c=91/\¬ c=123/\¬ c=93/\¬ c=125/\op=o):=by
 unfold op1 ztA zvG at ho
 by_cases h1:c=91
 ·subst h1; simp at ho; omega
 ·by_cases h2:c=123
  ·subst h2; simp at ho; omega
  ·by_cases h3:c=93
   ·subst h3; simp at ho; omega
   ·by_cases h4:c=125
    ·subst h4; simp at ho; omega
    ·simp[h1,h2,h3,h4] at ho; omega
theorem zxx {c op o:Nat} (ho:op1 c op=some o) : o<=op+1:=by
 rcases zj6 ho with h | h | h | h | h <;> omega
theorem bI {a c:Nat} (h:a=c) (x:Nat) : ((a:Int) == (x:Int))=decide (c=x):=by rw[Bool.eq_iff_iff,yC,decide_eq_true_iff]; omega
theorem zn9 (T:ByteArray) (i k f:Nat) (w:World) (hT:T.size<=1048576) (h:zfz T f 0 i=some k) :
  Calls prog 86 #[.string T,.int .i64 (i:Int)] w fun e w'=>e = .returned (.int .i64 (k:Int))/\Below w.heap.size w w':=by
 have HST:Hid (∀ (j:Nat) (w:World),j < T.size->Calls prog 85 #[.string T,.int .i64 j] w (zrB T w (zcM T j))):=fun j w hj=>zbv T j w hT (by omega)
 have hi0:i < T.size:=by
  cases f with
  | zero=>simp[zfz] at h
  | succ f=>
   rw[zfz] at h
   split at h
   ·assumption
   ·cases h
 have H0:=zab h
 clear h
 go_enter func86,ntmps86
 go_wp2
 go_loopw [1,5] (fun iv ov wr=>∃ (j op g:Nat),iv = .int .i64 (j:Int)/\ov = .int .i64 (op:Int)/\j<=T.size/\op<=j/\zfz T g op j=some k/\Below w.heap.size w wr) (fun iv _ _=>T.size - (intOf iv).toNat)
 case atStart=>exact⟨i,0,f,rfl,rfl,by omega,by omega,uh H0,yH _ _⟩
 case round=>
  obtain⟨j,op,g,rfl,rfl,hj,hop,hg,bw⟩:=hrel
  clear H0
  obtain⟨g,rfl⟩ : ∃ g',g=g'+1:=by cases g with
   | zero=>simp[zfz] at hg
   | succ g=>exact⟨g,rfl⟩
  rw[zfz] at hg
  by_cases hl:j < T.size
  ·rw[yg hl] at hg
   have hltI:(j:Int) < (T.size:Int):=by omega
   have hb:=zas T j hl
   obtain⟨n,hn,o,ho,hz⟩ : ∃ j2,nxt T j=some j2/\∃ o,op1 (bt T j) op=some o/\(if o=0/\zej T j2=true then some j2 else zfz T g o j2)=some k:=by
    cases hn:nxt T j with
    | none=>rw[hn] at hg; simp at hg
    | some j2=>
     rw[hn] at hg
     simp only[yA] at hg
     cases ho:op1 (bt T j) op with
     | none=>rw[ho] at hg; simp at hg
     | some o=>rw[ho] at hg; exact⟨j2,rfl,o,rfl,by simpa using hg⟩
   clear hg
   have hnj:=zuu hn hl
   have hnT:=hnj.2
   have hjn:=hnj.1
   obtain⟨hns,hnq⟩:=zlt hn
   have ht:=zpu hnT hz
   have HB:=zab bw
   clear hn hz hnj bw
   obtain⟨c,hc⟩ : ∃ c,bt T j=c:=⟨_,rfl⟩
   have f34:((T[j].toNat:Int) == 34)=decide (c=34):=bI (hb ▸ hc) 34
   have f91:((T[j].toNat:Int) == 91)=decide (c=91):=bI (hb ▸ hc) 91
   have f123:((T[j].toNat:Int) == 123)=decide (c=123):=bI (hb ▸ hc) 123
   have f93:((T[j].toNat:Int) == 93)=decide (c=93):=bI (hb ▸ hc) 93
   have f125:((T[j].toNat:Int) == 125)=decide (c=125):=bI (hb ▸ hc) 125
   have tz:((o:Int) == 0)=decide (o=0):=bI rfl 0
   have te:((n:Int) == (T.size:Int))=decide (n=T.size):=bI rfl _
   have hoj:=zxx ho
   rw[hc] at hns hnq ho
   by_cases c34:c=34
   ·subst c34
    obtain⟨l,hq⟩:=hnq rfl
    obtain rfl:op=o:=by injection ho
    have HSJ:=zab (uh HST j wr hl)
    rw[hq] at HSJ
    clear hnq hns hq hb hc HST ho
    go_wp2_with fail
    refine (uh HSJ).mono ?_
    rintro e w2 ⟨b2,rfl⟩
    replace HB:=zab (zaa (uh HB) b2)
    clear HSJ b2
    rcases ht with ⟨ht,h2⟩ | ⟨ht,h2⟩
    ·have H2:=zab h2
     clear h2
     rcases ht with h1 | ⟨h1,h2,h3,h4,h5⟩
     all_goals (
      try (have hbn := (zas T n h2).symm
           have hlN:(n:Int) < (T.size:Int):=by omega
           have g44:((T[n].toNat:Int) == 44)=decide (bt T n=44):=bI hbn 44
           have g93:((T[n].toNat:Int) == 93)=decide (bt T n=93):=bI hbn 93
           have g125:((T[n].toNat:Int) == 125)=decide (bt T n=125):=bI hbn 125
           clear hbn)
      go_wp2
      all_goals (
       go_roundw
       case rel=>exact⟨n,op,g,by go_num,by go_num,hnT,by omega,uh H2,uh HB⟩
       case measure=>simp[intOf]; omega))
    ·have HK:=zab h2
     clear h2
     rcases ht with ⟨h1,h2⟩ | ⟨h1,h2,h3 | h3 | h3⟩
     all_goals (
      try (have hbn := (zas T n h2).symm
           have hlN:(n:Int) < (T.size:Int):=by omega
           have g44:((T[n].toNat:Int) == 44)=decide (bt T n=44):=bI hbn 44
           have g93:((T[n].toNat:Int) == 93)=decide (bt T n=93):=bI hbn 93
           have g125:((T[n].toNat:Int) == 125)=decide (bt T n=125):=bI hbn 125
           clear hbn)
      go_wp2
      all_goals (
       go_ret
       exact⟨by rw[← uh HK]; first | rfl | go_num,uh HB⟩))
   ·have hnI:(j:Int)+1=(n:Int):=by have:=hns c34; omega
    have hcs:=zj6 ho
    clear hnq hns hb hc HST ho
    rcases hcs with ⟨rfl,hoI⟩ | ⟨rfl,hoI⟩ | ⟨rfl,hoI⟩ | ⟨rfl,hoI⟩ | ⟨c1,c2,c3,c4,rfl⟩
    all_goals (
     rcases ht with ⟨ht,h2⟩ | ⟨ht,h2⟩
     ·have H2:=zab h2
      clear h2
      rcases ht with h1 | ⟨h1,h2,h3,h4,h5⟩
      all_goals (
       try (have hbn := (zas T n h2).symm
            have hlN:(n:Int) < (T.size:Int):=by omega
            have g44:((T[n].toNat:Int) == 44)=decide (bt T n=44):=bI hbn 44
            have g93:((T[n].toNat:Int) == 93)=decide (bt T n=93):=bI hbn 93
            have g125:((T[n].toNat:Int) == 125)=decide (bt T n=125):=bI hbn 125
            clear hbn)
       go_wp2
       all_goals (
        go_roundw
        case rel=>exact⟨n,_,g,by go_num,by go_num,hnT,by omega,uh H2,uh HB⟩
        case measure=>simp[intOf]; omega))
     ·have HK:=zab h2
      clear h2
      rcases ht with ⟨h1,h2⟩ | ⟨h1,h2,h3 | h3 | h3⟩
      all_goals (
       try (have hbn := (zas T n h2).symm
            have hlN:(n:Int) < (T.size:Int):=by omega
            have g44:((T[n].toNat:Int) == 44)=decide (bt T n=44):=bI hbn 44
            have g93:((T[n].toNat:Int) == 93)=decide (bt T n=93):=bI hbn 93
            have g125:((T[n].toNat:Int) == 125)=decide (bt T n=125):=bI hbn 125
            clear hbn)
       go_wp2
       all_goals (
        go_ret
        exact⟨by rw[← uh HK]; first | rfl | go_num,uh HB⟩)))
  ·rw[yf hl] at hg; cases hg
abbrev za3:=List UInt8×List UInt8
def zbc (p:za3) : List Value:=[.string (zac p.1),.string (zac p.2)]
def PR (w:World) (B:Nat) (v:Value) (ps:List za3) : Prop:=w.ownsRow B 99 2 v ps.length (ps.flatMap zbc)
theorem zvN (ps:List za3) (j:Nat) (h:j < ps.length) : (ps.flatMap zbc)[j*2]?=some (.string (zac ps[j].1))/\(ps.flatMap zbc)[j*2+1]?=some (.string (zac ps[j].2)):=by
 induction ps generalizing j with
 | nil=>simp at h
 | cons p r ih=>
  cases j with
  | zero=>exact⟨rfl,rfl⟩
  | succ j=>
   have:=ih j (by simpa using h)
   rw[List.flatMap_cons,show (j+1)*2=j*2+2 from by omega]
   exact this
theorem PR.cells {w:World} {B:Nat} {v:Value} {ps:List za3} (h:PR w B v ps) (j:Nat) (hj:j < ps.length) :
  ∃ g cap,v = .slice (some ⟨g,0,none⟩) ps.length cap/\B<=g/\g < w.heap.size/\w.cell? ⟨g,j*2,none⟩=some (.string (zac ps[j].1))/\w.cell? ⟨g,j*2+1,none⟩=some (.string (zac ps[j].2)):=by
 obtain⟨hl,h0 | ⟨g,cap,cur,hv,hB,hg,hn,hc,hsz,ht⟩⟩:=h
 ·omega
 ·have hc0:=zvN ps j hj
  refine⟨g,cap,hv,hB,(yB.1 hg).1,?_,?_⟩
  ·rw[yF hg,← Array.getElem?_toList,← hc0.1,← ht,List.getElem?_take_of_lt (by omega)]
  ·rw[yF hg,← Array.getElem?_toList,← hc0.2,← ht,List.getElem?_take_of_lt (by omega)]
theorem PR.below {w w':World} {B:Nat} {v:Value} {ps:List za3} (h:PR w B v ps) (hb:Below w.heap.size w w') : PR w' B v ps:=zaj h hb
def ztG (ps:List za3) (key:List UInt8) : Bool:=(ps.map (·.1)).contains key
theorem zi0 (a b:List UInt8) : ((zac a).toList == (zac b).toList)=(a == b):=by
 rw[ByteArray.toList_eq,ByteArray.toList_eq,zad,zad]
theorem zrC (B:Nat) (v:Value) (ps:List za3) (key:List UInt8) (w:World) (h:PR w B v ps) (hn:ps.length<=40000000) :
  Calls prog 91 #[v,.string (zac key)] w fun e w'=>∃ z:Int,e = .returned (.int .i64 z)/\decide ((0:Int)<=z)=ztG ps key/\w=w':=by
 obtain⟨x,len,cap,rfl,hlen⟩ : ∃ x len cap,v = .slice x len cap/\len=ps.length:=by
  rcases h.2 with ⟨hv,h0⟩ | ⟨g,cap,cur,hv,_⟩
  ·exact⟨_,_,_,hv,h0.symm⟩
  ·exact⟨_,_,_,hv,rfl⟩
 subst hlen
 have HP:=zab h
 clear h
 go_enter func91,ntmps91
 go_wp2_with fail
 go_loopw [5] (fun k wr=>w=wr/\∃ j:Nat,k = .int .i64 (j:Int)/\j<=ps.length/\((ps.take j).map (·.1)).contains key=false) (fun k _=>ps.length - (intOf k).toNat)
 case atStart=>exact⟨rfl,0,rfl,yt _,by simp⟩
 case round=>
  obtain⟨rfl,j,rfl,hj,hno⟩:=hrel
  have HNO:=zab hno
  clear hno
  by_cases hin:j < ps.length
  ·have t1:((j:Int) < (ps.length:Int))=True:=eq_true (by omega)
   obtain⟨g,cap',he,hB,hgl,c0,c1⟩:=(uh HP).cells j hin
   injection he with he1 he2 he3
   subst he1; subst he3
   have heq:=zi0 ps[j].1 key
   by_cases hk:ps[j].1=key
   ·have t2:(ps[j].1 == key)=true:=by rw[yC]; exact hk
    have HY:Hid (ztG ps key=true):=by
     show _=_
     unfold ztG
     rw[List.contains_iff_mem]
     exact yO.2 ⟨ps[j],yr _,hk⟩
    rw[t2] at heq
    clear hk t2
    go_wp2
    go_ret
    exact⟨_,rfl,by rw[uh HY]; exact yj (by omega),rfl⟩
   ·have t2:(ps[j].1 == key)=false:=by rw[yd]; exact hk
    have HX:Hid (((ps.take (j+1)).map (·.1)).contains key=false):=by
     show _=_
     have:=uh HNO
     rw[yy hin,yw,List.contains_append,this]
     simp; exact fun e=>hk e.symm
    rw[t2] at heq
    clear hk t2
    go_wp2
    go_roundw
    case rel=>exact⟨trivial,j+1,by go_num,by omega,uh HX⟩
    case measure=>simp[intOf]; omega
  ·have t1:((j:Int) < (ps.length:Int))=False:=yQ (by omega)
   have HY:Hid (ztG ps key=false):=by
    show _=_
    unfold ztG
    have:=uh HNO
    rwa [yq (by omega)] at this
   go_wp2
   go_ret
   exact⟨_,rfl,by rw[uh HY]; rfl,rfl⟩
theorem ztH {s:ByteArray} : ∀ {i j:Nat} {l:List UInt8},zfO s i=some (l,j)->l.length+4*(i+1)<=4*j:=by
 intro i
 generalize hn:s.size - i=n
 induction n using Nat.strongRecOn generalizing i with
 | _ n ih=>
  intro j l h
  by_cases h34:bt s i=34
  ·rw[zdH h34] at h
   injection h with h; injection h with h1 h2
   subst h1; simp; omega
  ·cases hp:piece s i with
   | none=>rw[zdI h34 hp] at h; cases h
   | some p=>
    obtain⟨r,n'⟩:=p
    have hk:=zcW hp
    have he:=zn3 r
    rw[zee h34 hp] at h
    rcases hq:zfO s (i+n') with _ | ⟨l2,j2⟩
    ·rw[hq] at h; cases h
    ·rw[hq] at h
     injection h with h; injection h with h1 h2
     have:=ih (s.size - (i+n')) (by omega) rfl hq
     subst h1
     simp only[yh]
     simp only at h2
     omega
theorem zfC {s:ByteArray} {i j:Nat} {l:List UInt8} (h:zcM s i=some (l,j)) : l.length+4*(i+2)<=4*j:=by
 unfold zcM at h
 split at h
 ·have:=ztH h; omega
 ·cases h
theorem zcD (l:List UInt8) : (quoted l).length<=6*l.length+2:=by
 have:=zv8 l
 unfold quoted; simp only[yn,yh,yD]; omega
theorem zuv {s:ByteArray} {i j:Nat} {l:List UInt8} (h:nm s i=some (l,j)) : l.length+i<=j:=by
 have hk:=zrh h
 unfold nm at h
 split at h
 ·injection h with h; injection h with h1 h2
  subst h1; subst h2
  unfold zbM zaX
  split
  ·simp; omega
  ·rw[ym,yu,zak]; omega
 ·cases h
def zbB (l:List (List UInt8×List UInt8)) : Nat:=(l.map fun p=>(zav p).length+1).sum
theorem zoa (p:List UInt8×List UInt8) : ∀ l,zbB (zeW p l)=(zav p).length+1+zbB l
 | []=>by simp[zeW,zbB]
 | q :: r=>by
  have:=zoa p r
  unfold zeW
  split
  ·simp[zbB] at *; omega
  ·simp[zbB]
theorem zlu:∀ (l acc:List (List UInt8×List UInt8)),zbB (l.foldl (fun acc p=>zeW p acc) acc)=zbB l+zbB acc
 | [],acc=>by simp[zbB]
 | p :: l,acc=>by
  rw[List.foldl_cons,zlu l,zoa]
  simp[zbB]; omega
theorem ztI (l:List (List UInt8×List UInt8)) : zbB l.reverse=zbB l:=by
 unfold zbB; rw[List.map_reverse,List.sum_reverse]
theorem zdq (l:List (List UInt8×List UInt8)) : zbB (zaq l)=zbB l:=by
 unfold zaq; rw[ztI,zlu]; simp[zbB]
theorem zh0:∀ l:List (List UInt8),(joinT l).length=(l.map fun t=>t.length+1).sum
 | []=>rfl
 | t :: r=>by simp[joinT,zh0 r]; omega
theorem zfD (l:List (List UInt8)) : (joinC l).length<=(l.map fun t=>t.length+1).sum:=by
 cases l with
 | nil=>simp[joinC]
 | cons t r=>simp[joinC,zh0]
theorem zvO (l:List (List UInt8×List UInt8)) : (mkO (zaq l)).length<=zbB l+2:=by
 have h:=zfD ((zaq l).map zav)
 rw[List.map_map] at h
 have e:((zaq l).map ((fun t=>t.length+1)∘zav)).sum=zbB l:=by rw[← zdq l]; rfl
 rw[e] at h
 unfold mkO
 simp only[yn,yh,yD]; omega
theorem zm7 (s:ByteArray) : ∀ f i,(∀ v j,pv s f i=some (v,j)->(ct v).length<=30*(j - i))/\(∀ l j,pa s f i=some (l,j)->((ctL l).map fun t=>t.length+1).sum+2<=30*(j - i))/\(∀ m j,po s f i=some (m,j)->zbB (ctM m)+2<=30*(j - i))
 | 0,i=>⟨fun v j h=>by simp[pv] at h,fun v j h=>by simp[pa] at h,fun v j h=>by simp[po] at h⟩
 | f+1,i=>by
  refine⟨fun v j h=>?_,fun l j h=>?_,fun m j h=>?_⟩
  ·have hok:=(zhO s (f+1) i).1 v j h
   rw[pv] at h
   have g:=zaz s (i+1)
   split at h
   ·split at h
    ·injection h with h; injection h with h0 h
     subst h0
     simp[ct,ctL,mkA,joinC]; omega
    ·simp only[yz] at h
     obtain⟨⟨l,k⟩,hk,h⟩:=h
     injection h with h0 h
     have h1:=(zm7 s f (sk s (i+1))).2.1 l k hk
     have h2:=(zhO s f (sk s (i+1))).2.1 l k hk
     have h3:=zfD (ctL l)
     subst h0
     simp only[ct,mkA,yn,yh,yD]
     simp only at h; omega
   ·split at h
    ·split at h
     ·injection h with h; injection h with h0 h
      subst h0
      simp[ct,ctM,mkO,zaq,joinC]; omega
     ·simp only[yz] at h
      obtain⟨⟨l,k⟩,hk,h⟩:=h
      injection h with h0 h
      have h1:=(zm7 s f (sk s (i+1))).2.2 l k hk
      have h2:=(zhO s f (sk s (i+1))).2.2 l k hk
      have h3:=zvO (ctM l)
      subst h0
      simp only[ct]
      simp only at h; omega
    ·split at h
     ·simp only[yz] at h
      obtain⟨⟨l,k⟩,hk,h⟩:=h
      injection h with h0 h
      have h1:=zfC hk
      have h2:=zcD l
      subst h0
      simp only[ct]
      simp only at h; omega
     ·split at h
      ·injection h with h; injection h with h0 h
       subst h0; simp[ct]; omega
      ·split at h
       ·injection h with h; injection h with h0 h
        subst h0; simp[ct]; omega
       ·split at h
        ·injection h with h; injection h with h0 h
         subst h0; simp[ct]; omega
        ·simp only[yz] at h
         obtain⟨⟨l,k⟩,hk,h⟩:=h
         injection h with h0 h
         have h1:=zuv hk
         subst h0
         simp only[ct]
         simp only at h; omega
  ·rw[pa] at h
   simp only[Option.bind_eq_some_iff] at h
   obtain⟨⟨v,k⟩,hk,h⟩:=h
   have h1:=(zhO s f i).1 v k hk
   have h1':=(zm7 s f i).1 v k hk
   have g1:=zaz s k
   simp only at h
   split at h
   ·injection h with h; injection h with h0 h
    subst h0
    simp[ctL]; omega
   ·split at h
    ·simp only[yz] at h
     obtain⟨⟨l,n⟩,hn,h⟩:=h
     injection h with h0 h
     have h2:=(zhO s f _).2.1 l n hn
     have h2':=(zm7 s f _).2.1 l n hn
     have g2:=zaz s (sk s k+1)
     subst h0
     simp only[ctL,yi,yL]
     simp only at h; omega
    ·cases h
  ·rw[po] at h
   simp only[Option.bind_eq_some_iff] at h
   obtain⟨⟨key,a⟩,ha,h⟩:=h
   have h0:=zce ha
   have h0':=zfC ha
   have hq:=zcD key
   simp only at h
   split at h
   ·simp only[Option.bind_eq_some_iff] at h
    obtain⟨⟨v,k⟩,hk,h⟩:=h
    have h1:=(zhO s f _).1 v k hk
    have h1':=(zm7 s f _).1 v k hk
    have g0:=zaz s a
    have g3:=zaz s (sk s a+1)
    have g1:=zaz s k
    simp only at h
    split at h
    ·injection h with h; injection h with h0 h
     subst h0
     simp[ctM,zbB,zav]; omega
    ·split at h
     ·simp only[yz] at h
      obtain⟨⟨l,n⟩,hn,h⟩:=h
      injection h with h0 h
      have h2:=(zhO s f _).2.2 l n hn
      have h2':=(zm7 s f _).2.2 l n hn
      have g2:=zaz s (sk s k+1)
      subst h0
      have e:zbB (ctM (.cons key v l))=(zav (key,ct v)).length+1+zbB (ctM l):=by simp[ctM,zbB]
      have e2:(zav (key,ct v)).length=(quoted key).length+1+(ct v).length:=by simp[zav]; omega
      simp only at h ⊢
      omega
     ·cases h
   ·cases h
theorem zj7 {s:ByteArray} {i j:Nat} {v:JV} (h:val s i=some (v,j)) : (ct v).length<=30*(j - i):=(zm7 s _ i).1 v j h
theorem zyo (c:UInt8) : 1<=(qB c).length:=by
 unfold qB
 repeat' split
 all_goals simp
theorem zxy (l:List UInt8) : l.length<=(qs l).length:=by
 induction l with
 | nil=>simp
 | cons c l ih=>
  have:=zyo c
  simp only[qs,List.flatMap_cons,yh,yn] at *
  omega
def JL.toL:JL->List JV
 | .nil=>[]
 | .cons v r=>v :: r.toL
theorem zaG:∀ l:JL,ctL l=l.toL.map ct
 | .nil=>rfl
 | .cons v r=>by rw[ctL,JL.toL,yi,zaG r]
theorem zcO (l:List UInt8) : l.length+2<=(quoted l).length:=by
 have:=zxy l
 simp[quoted]; omega
theorem zi1 (p:List UInt8×List UInt8) : (zav p).length=(quoted p.1).length+1+p.2.length:=by simp[zav]; omega
def hold (n:Nat) : Nat:=2+(n - 1)
def dl:List JV->Nat
 | []=>0
 | v :: r=>max (zaY v) (dl r)
def cl (vs:List JV) : Nat:=(vs.map zaA).sum
def nl (ts:List (List UInt8)) : Nat:=(ts.map List.length).sum
theorem zrD (a:List JV) (v:JV) : dl (a++[v])=max (dl a) (zaY v):=by
 induction a with
 | nil=>simp[dl]
 | cons x r ih=>simp only[List.cons_append,dl,ih]; omega
theorem zrE (a:List JV) (v:JV) : cl (a++[v])=cl a+zaA v:=by simp[cl]
theorem ze5:∀ l:JL,zn4 l=dl l.toL
 | .nil=>rfl
 | .cons v r=>by rw[zn4,JL.toL,dl,ze5 r]
theorem zh1:∀ l:JL,zhR l=cl l.toL
 | .nil=>rfl
 | .cons v r=>by rw[zhR,JL.toL,zh1 r]; simp[cl]
theorem zrF (a:List JV) (k:Nat) : dl (a.take k)<=dl a:=by
 induction a generalizing k with
 | nil=>simp
 | cons x r ih=>
  cases k with
  | zero=>simp[dl]
  | succ k=>simp only[List.take_succ_cons,dl]; have:=ih k; omega
theorem zvP (a:List JV) (k:Nat) (h:k < a.length) : zaY a[k]<=dl a:=by
 induction a generalizing k with
 | nil=>simp at h
 | cons x r ih=>
  cases k with
  | zero=>simp only[List.getElem_cons_zero,dl]; omega
  | succ k=>simp only[List.getElem_cons_succ,dl]; have:=ih k (by simpa using h); omega
theorem zgK (a:List Nat) (k:Nat) : (a.take k).sum<=a.sum:=by
 have:a.sum=(a.take k).sum+(a.drop k).sum:=by rw[← List.sum_append,List.take_append_drop]
 omega
theorem zfE (a:List Nat) (k:Nat) (h:k < a.length) : a[k]<=a.sum:=by
 have h1:=zgK a (k+1)
 rw[yy h,List.sum_append] at h1
 simp at h1; omega
theorem zob:∀ ts:List (List UInt8),(joinT ts).length=ts.length+nl ts
 | []=>rfl
 | t :: r=>by
  have:=zob r
  simp[joinT,nl] at this ⊢
  omega
theorem zeJ (ts:List (List UInt8)) : (joinC ts).length+2=hold ts.length+nl ts:=by
 cases ts with
 | nil=>simp[joinC,hold,nl]
 | cons t r=>
  have:=zob r
  simp[joinC,hold,nl] at this ⊢
  omega
theorem zdL:∀ m:JM,zlV m=dl (m.toL.map (·.2))
 | .nil=>rfl
 | .cons k v r=>by rw[zlV,JM.toL,yi,dl,zdL r]
theorem zdM:∀ m:JM,zgs m=(m.toL.map fun q=>zaA q.2).sum
 | .nil=>rfl
 | .cons k v r=>by rw[zgs,JM.toL,yi,yL,zdM r]
def zdT (q:List UInt8×JV) : Nat:=(quoted q.1).length+1+(ct q.2).length
theorem zbd (m:JM) : (ct (.obj m)).length=hold m.toL.length+(m.toL.map zdT).sum:=by
 show (mkO (zaq (ctM m))).length=_
 have h:=zeJ ((zaq (ctM m)).map zav)
 have e1:((zaq (ctM m)).map zav).length=m.toL.length:=by rw[yl,(zap _).length_eq,zaK,yl]
 have e2:nl ((zaq (ctM m)).map zav)=(m.toL.map zdT).sum:=by
  unfold nl
  have p:=(((zap (ctM m)).map zav).map List.length).sum_nat
  rw[p,zaK]
  simp only[List.map_map]
  congr 1
  apply List.map_congr_left
  intro q _
  simp only[Function.comp_apply,zdT]
  exact zi1 _
 rw[e1,e2] at h
 simp[mkO]; omega
theorem zdN (f:List UInt8×JV->Nat) {qs:List (List UInt8×JV)} {q:List UInt8×JV} (h:q∈qs) : f q<=(qs.map f).sum:=by
 obtain⟨j,hj,rfl⟩:=List.getElem_of_mem h
 have:=zfE (qs.map f) j (by simpa using hj)
 simpa using this
theorem ztJ (s:ByteArray) (i:Nat) (w:World) (hs:s.size<=1048576) (hi:i < s.size) (h91:bt s i=91)
  (IH:∀ (j:Nat) (w:World),i < j->j<=s.size->Calls prog 82 #[.string s,.int .i64 j] w (GP w (val s j))) :
  Calls prog 115 #[.string s,.int .i64 i] w (GP w (val s i)):=by
 have HSM:=zab (zru s hs)
 have g0:=zaz s (i+1)
 have g1:=(zdG (s:=s) (i:=i+1) (by omega)).2
 have HV:=zab (zjW h91)
 have HIH:=zab IH
 clear IH
 generalize hk0:sk s (i+1)=k0 at *
 go_enter func115,ntmps115
 go_wp2_with fail
 refine ((uh HSM).1 _ (i+1) _ (by omega)).mono ?_
 rintro e w1 ⟨rfl,rfl⟩
 rw[hk0]
 go_wp2_with fail
 refine ((uh HSM).2 93 k0 _ (by decide)).mono ?_
 rintro e w1 ⟨rfl,rfl⟩
 clear hk0
 by_cases h93:bt s k0=93
 ·rw[yj h93]
  have HR:Hid (val s i=some (.arr .nil,k0+1)):=by show _=_; rw[uh HV,yg h93]
  clear h93 HV
  go_wp2
  go_returns
  rw[uh HR]
  exact⟨(zai w _).trans ((yH _ _).alloc (by simp) _),rfl⟩
 ·rw[yk h93]
  have HR:Hid (val s i=(elems s k0).map fun q=>(.arr q.1,q.2)):=by show _=_; rw[uh HV,yf h93]
  clear h93 HV h91
  go_wp2_with fail
  go_loopg [1] (s.size+1 - k0) (fun g k wr=>∃ (j:Nat) (acc:JL),g=s.size+1 - j/\k = .int .i64 (j:Int)/\k0<=j/\j<=s.size/\Got w.heap.size ⟨#[]⟩ 0 false false false wr/\Got (w.heap.size+1) (zac (91 :: zgy acc)) 0 true (zeG acc) (twL acc) wr/\Below w.heap.size w wr/\(zgy acc).length<=31*j/\elems s k0=(elems s j).map fun q=>(acc.app q.1,q.2))
  case atStart=>
   refine⟨k0,.nil,rfl,rfl,ye _,g1,?_,?_,(zai w _).trans ((yH _ _).alloc (by simp) _),by simp[zgy],by simp[JL.app]⟩
   ·show (World.alloc _ _).heap[_]?=_
    rw[Lib.alloc_old _ _ _ (by simp)]; exact yG w _
   ·have:=yG (w.alloc (zfB ⟨#[]⟩ 0 false false false)) (zfB (zac [91]) 0 true false false)
    rw[show (w.alloc (zfB ⟨#[]⟩ 0 false false false)).heap.size=w.heap.size+1 from by simp] at this
    exact this
  case round=>
   obtain⟨j,acc,hg,rfl,hj1,hj2,hr,hgot,hb,hpl,hst⟩:=hrel
   have HST:=zab hst
   have HG:=zab hgot
   have HRR:=zab hr
   have HB:=zab hb
   have hwsz:=hb.size
   have hgl:=hgot.lt
   clear hst hgot hr hb
   have HC:=zab (uh HIH j wr (by omega) (by omega))
   cases hv:val s j with
   | none=>
    have HN:Hid (val s i=none):=by
     show _=_
     rw[uh HR,uh HST,zdK,hv]; rfl
    rw[hv] at HC
    clear hv
    go_wp2_with fail
    refine (uh HC).mono ?_
    rintro e w2 ⟨b2,t,n,bb,tw,rfl⟩
    have R2:=(uh HRR).below b2
    have B2:=zaa (uh HB) b2
    have R3:=R2.alloc (zfB t n false bb tw)
    have B3:Below w.heap.size w (w2.alloc (zfB t n false bb tw)):=B2.alloc (by have:=b2.size; omega) _
    have c0:=R3.c0
    have c1:=R3.c1
    have c2:=R3.c2
    have c3:=R3.c3
    have c4:=R3.c4
    have f0:=R3.fz 0
    have f1:=R3.fz 1
    have f2:=R3.fz 2
    have f3:=R3.fz 3
    have f4:=R3.fz 4
    have RX:=zab (R3.put ⟨#[]⟩ 0 0 rfl false false false)
    have BX:=zab (zbk B3 (ye _) (.string ⟨#[]⟩) (.int .i64 0) (.bool false) (.bool false) (.bool false))
    clear HC HRR R2 R3 B2 B3
    simp only[zgx]
    go_wp2
    try simp only[Exit.inBlock,Exit.then]
    refine bodyPost_ret (zcv rfl rfl (uh RX)) rfl ?_
    exact GP.bad (uh HN) (uh BX)
   | some q=>
    obtain⟨v,n⟩:=q
    have hvo:=zeV hv
    have hvl:=zj7 hv
    have HPL:Hid ((zgy (acc.app (.cons v .nil))).length<=31*n):=by
     show _<=_
     rw[zhX]; simp only[yh,yn,yD]; omega
    have z1:(zac (91 :: zgy acc)).size<=40000000:=by rw[zaf]; simp only[yn]; omega
    have z2:(zac (ct v)).size<=40000000:=by rw[zaf]; omega
    have z3:(zac (91 :: (zgy acc++ct v))).size<=80000000:=by rw[zaf]; simp only[yn,yh]; omega
    have hn1:=zaz s n
    have hn2:=(zdG hvo.2).2
    have HEQ:Hid (elems s k0=(if bt s (sk s n)=93 then some (JL.cons v .nil,sk s n+1) else if bt s (sk s n)=44 then (elems s (sk s (sk s n+1))).map fun r=>(JL.cons v r.1,r.2) else none).map fun q=>(acc.app q.1,q.2)):=by
     show _=_
     rw[uh HST,zdK,hv]; rfl
    rw[hv] at HC
    clear hv HST
    have hcat1:zac (91 :: zgy acc)++zac (ct v)=zac (91 :: (zgy acc++ct v)):=zdp _ _
    have HFI:Hid (zac (91 :: (zgy acc++ct v))++⟨#[93]⟩=zac (ct (.arr (acc.app (.cons v .nil))))):=by
     show _=_
     rw[show (⟨#[93]⟩ : ByteArray)=zac [93] from rfl,zdp,ct,mkA,← zrt]; simp
    have HCO:Hid (zac (91 :: (zgy acc++ct v))++⟨#[44]⟩=zac (91 :: zgy (acc.app (.cons v .nil)))):=by
     show _=_
     rw[show (⟨#[44]⟩ : ByteArray)=zac [44] from rfl,zdp,zhX]; simp
    have HBB:Hid (zeG (acc.app (.cons v .nil))=(zeG acc || zbf v)):=by show _=_; rw[zjY]; simp[zeG]
    have HTT:Hid (twL (acc.app (.cons v .nil))=(twL acc || twV v)):=by show _=_; rw[zm0]; simp[twL]
    go_wp2_with fail
    refine (uh HC).mono ?_
    rintro e w2 ⟨b2,rfl⟩
    simp only[zgx]
    have R3:=zab (((uh HRR).below b2).alloc (zfB (zac (ct v)) n true (zbf v) (twV v)))
    have G3:=((uh HG).below b2).alloc (zfB (zac (ct v)) n true (zbf v) (twV v))
    have V3:Got w2.heap.size (zac (ct v)) n true (zbf v) (twV v) (w2.alloc (zfB (zac (ct v)) n true (zbf v) (twV v))):=yG w2 _
    have B3:Hid (Below w.heap.size w (w2.alloc (zfB (zac (ct v)) n true (zbf v) (twV v)))):=(zaa (uh HB) b2).alloc (by have:=b2.size; omega) _
    have hw2:=b2.size
    clear HC HRR HG HB b2
    simp only[zfB] at G3 V3 R3 B3
    generalize zeG acc=ba at *
    generalize twL acc=ta at *
    generalize zbf v=bv at *
    generalize twV v=tv at *
    generalize zac (91 :: zgy acc)=sa at *
    generalize zac (91 :: (zgy acc++ct v))=sb at *
    generalize zac (ct v)=sc at *
    generalize hw3:w2.alloc (.cells #[.string sc,.int .i64 (n:Int),.bool true,.bool bv,.bool tv] 135 (0,0))=w3 at *
    have hvg:w2.heap.size≠w.heap.size+1:=by omega
    have ok3:=V3.c2
    have go0:=G3.c0
    have gf0:=G3.fz 0
    have gf3:=G3.fz 3
    have gf4:=G3.fz 4
    have v0:=V3.c0
    have G4:=G3.set0 sb
    have V4:=V3.other (p:=⟨w.heap.size+1,0,none⟩) hvg (.string sb)
    have G5:=G4.set3 (ba || bv)
    have V5:=V4.other (p:=⟨w.heap.size+1,3,none⟩) hvg (.bool (ba || bv))
    have G6:=G5.set4 (ta || tv)
    have V6:=V5.other (p:=⟨w.heap.size+1,4,none⟩) hvg (.bool (ta || tv))
    have g43:=G4.c3
    have v43:=V4.c3
    have f43:=G4.fz 3
    have g54:=G5.c4
    have v54:=V5.c4
    have f54:=G5.fz 4
    have v61:=V6.c1
    have HG6:=zab G6
    clear G3 V3 G4 V4 G5 V5 G6 V6
    generalize hbb:(ba || bv)=bb at *
    generalize htt:(ta || tv)=tt at *
    have hb':ba=true/\bb=true∨ba=false/\bv=bb:=zn7 _ _ _ hbb
    have ht':ta=true/\tt=true∨ta=false/\tv=tt:=zn7 _ _ _ htt
    clear hbb htt hpl hvl
    rcases hb' with ⟨rfl,rfl⟩ | ⟨rfl,rfl⟩ <;> rcases ht' with ⟨rfl,rfl⟩ | ⟨rfl,rfl⟩
    all_goals
     go_wp2_with fail
     refine ((uh HSM).1 _ n _ rfl).mono ?_
     rintro e w6 ⟨rfl,hw6⟩
     have G6:=hw6 ▸ uh HG6
     have R6:Got w.heap.size ⟨#[]⟩ 0 false false false w6:=hw6 ▸ (((uh R3).other (p:=⟨w.heap.size+1,0,none⟩) (by show _≠w.heap.size+1; omega) _).other (p:=⟨w.heap.size+1,3,none⟩) (by show _≠w.heap.size+1; omega) _).other (p:=⟨w.heap.size+1,4,none⟩) (by show _≠w.heap.size+1; omega) _
     have B6:Below w.heap.size w w6:=hw6 ▸ (((uh B3).setCell (p:=⟨w.heap.size+1,0,none⟩) (by show _<=w.heap.size+1; omega) _).setCell (p:=⟨w.heap.size+1,3,none⟩) (by show _<=w.heap.size+1; omega) _).setCell (p:=⟨w.heap.size+1,4,none⟩) (by show _<=w.heap.size+1; omega) _
     have HB6:=zab B6
     have HR6:=zab R6
     have HG6':=zab G6
     clear ok3 go0 gf0 gf3 gf4 v0 g43 v43 f43 g54 v54 f54 v61 HG6 R3 B3 hw6 hw3 hcat1 G6 R6 B6 hvg hw2 w3
     generalize sk s n=k at *
     go_wp2_with fail
     refine ((uh HSM).2 93 k _ (by decide)).mono ?_
     rintro e w7 ⟨rfl,rfl⟩
     by_cases h93:bt s k=93
     ·rw[yj h93]
      have HVV:Hid (val s i=some (.arr (acc.app (.cons v .nil)),k+1)):=by
       show _=_
       rw[uh HR,uh HEQ,yg h93]; rfl
      have hfi:=uh HFI
      generalize hsf:zac (ct (.arr (acc.app (.cons v .nil))))=sf at *
      have HSF:=zab hsf
      have G6:=uh HG6'
      have c0:=G6.c0
      have f0:=G6.fz 0
      have G7:=G6.set0 sf
      have c71:=G7.c1
      have f71:=G7.fz 1
      have G8:=G7.set1 ((k:Int)+1) (k+1) (by omega)
      have R8:=((uh HR6).other (p:=⟨w.heap.size+1,0,none⟩) (by show _≠w.heap.size+1; omega) (.string sf)).other (p:=⟨w.heap.size+1,1,none⟩) (by show _≠w.heap.size+1; omega) (.int .i64 ((k:Int)+1))
      have B8:=((uh HB6).setCell (p:=⟨w.heap.size+1,0,none⟩) (by show _<=w.heap.size+1; omega) (.string sf)).setCell (p:=⟨w.heap.size+1,1,none⟩) (by show _<=w.heap.size+1; omega) (.int .i64 ((k:Int)+1))
      obtain⟨a0,a1',a2,a3,a4⟩:=G8.cells
      have a1:=a1'.trans (show _=some (Value.int .i64 ((k:Int)+1)) by rw[show ((k+1:Nat) : Int)=(k:Int)+1 from by omega])
      obtain⟨r0,r1,r2,r3,r4⟩:=R8.cells
      obtain⟨q0,q1,q2,q3,q4⟩:=R8.fzs
      have RX:=zab (R8.copyTo G8 ((k:Int)+1) (by omega))
      have BX:=zab (fun a b c d e=>zbk B8 (ye _) a b c d e)
      clear a1' G6 G7 G8 R8 B8 HG6' HR6 HB6 HFI hsf HCO HEQ HR h93
      go_wp2
      try simp only[Exit.inBlock,Exit.then]
      refine bodyPost_ret (zcv rfl rfl (uh RX)) rfl ?_
      rw[uh HVV]
      refine⟨uh BX _ _ _ _ _,?_⟩
      show _=Ending.returned (zgx (zac (ct (.arr (acc.app (.cons v .nil))))) (k+1) true (zeG (acc.app (.cons v .nil))) (twL (acc.app (.cons v .nil))))
      rw[uh HSF,uh HBB,uh HTT]
     ·rw[yk h93]
      go_wp2_with fail
      refine ((uh HSM).2 44 k _ (by decide)).mono ?_
      rintro e w8 ⟨rfl,rfl⟩
      by_cases h44:bt s k=44
      ·rw[yj h44]
       have hkl:k < s.size:=zaw (by omega)
       have HST2:Hid (elems s k0=(elems s (sk s (k+1))).map fun q=>((acc.app (.cons v .nil)).app q.1,q.2)):=by
        show _=_
        rw[uh HEQ,yf h93,yg h44,Option.map_map]
        congr 1
        funext q
        simp[JL.app_assoc,JL.app]
       have hco:=uh HCO
       generalize hsf:zac (91 :: zgy (acc.app (.cons v .nil)))=sf at *
       have HSF:=zab hsf
       have G6:=uh HG6'
       have c0:=G6.c0
       have f0:=G6.fz 0
       have G7:=zab (G6.set0 sf)
       have R7:=zab ((uh HR6).other (p:=⟨w.heap.size+1,0,none⟩) (by show _≠w.heap.size+1; omega) (.string sf))
       have B7:=zab ((uh HB6).setCell (p:=⟨w.heap.size+1,0,none⟩) (by show _<=w.heap.size+1; omega) (.string sf))
       clear G6 HG6' HR6 HB6 HFI hsf HCO HEQ h93 h44
       go_wp2_with fail
       refine ((uh HSM).1 _ (k+1) _ (by omega)).mono ?_
       rintro e w9 ⟨rfl,hw9⟩
       have G9:=hw9 ▸ uh G7
       have R9:=hw9 ▸ uh R7
       have B9:=hw9 ▸ uh B7
       have hs1:=zaz s (k+1)
       have hs2:=(zdG (s:=s) (i:=k+1) (by omega)).2
       clear G7 R7 B7 c0 f0
       go_wp2
       go_roundg (s.size+1 - sk s (k+1))
       case rel=>exact⟨sk s (k+1),acc.app (.cons v .nil),rfl,rfl,by omega,hs2,R9,by rw[uh HSF,uh HBB,uh HTT]; exact G9,B9,by have:=uh HPL; omega,uh HST2⟩
       case measure=>omega
      ·rw[yk h44]
       have HN:Hid (val s i=none):=by
        show _=_
        rw[uh HR,uh HEQ,yf h93,yf h44]; rfl
       have R6:=uh HR6
       obtain⟨r0,r1,r2,r3,r4⟩:=R6.cells
       obtain⟨q0,q1,q2,q3,q4⟩:=R6.fzs
       have RX:=zab (R6.put ⟨#[]⟩ 0 0 rfl false false false)
       have BX:=zab (zbk (uh HB6) (ye _) (.string ⟨#[]⟩) (.int .i64 0) (.bool false) (.bool false) (.bool false))
       clear R6 HG6' HR6 HB6 HFI HCO HEQ h93 h44
       go_wp2
       try simp only[Exit.inBlock,Exit.then]
       refine bodyPost_ret (zcv rfl rfl (uh RX)) rfl ?_
       exact GP.bad (uh HN) (uh BX)
theorem zm8 (s:ByteArray) : ∀ f i,(∀ v j,pv s f i=some (v,j)->zaA v+i<=j)/\(∀ l j,pa s f i=some (l,j)->zhR l+i<=j)/\(∀ m j,po s f i=some (m,j)->zgs m+i<=j)
 | 0,i=>⟨fun v j h=>by simp[pv] at h,fun v j h=>by simp[pa] at h,fun v j h=>by simp[po] at h⟩
 | f+1,i=>by
  refine⟨fun v j h=>?_,fun l j h=>?_,fun m j h=>?_⟩
  ·rw[pv] at h
   have g:=zaz s (i+1)
   split at h
   ·split at h
    ·have:=zaw (s:=s) (i:=sk s (i+1)) (by omega)
     injection h with h; injection h with hv h; subst hv; (try simp only[zaA]); (try simp only[zhR]); (try simp only[zgs]); omega
    ·simp only[yz] at h
     obtain⟨⟨l,k⟩,hk,h⟩:=h
     injection h with hv h
     have:=(zm8 s f (sk s (i+1))).2.1 l k hk
     subst hv; simp only at h; (try simp only[zaA]); (try simp only[zhR]); (try simp only[zgs]); omega
   ·split at h
    ·split at h
     ·have:=zaw (s:=s) (i:=sk s (i+1)) (by omega)
      injection h with h; injection h with hv h; subst hv; (try simp only[zaA]); (try simp only[zhR]); (try simp only[zgs]); omega
     ·simp only[yz] at h
      obtain⟨⟨l,k⟩,hk,h⟩:=h
      injection h with hv h
      have:=(zm8 s f (sk s (i+1))).2.2 l k hk
      subst hv; simp only at h; (try simp only[zaA]); (try simp only[zhR]); (try simp only[zgs]); omega
    ·split at h
     ·simp only[yz] at h
      obtain⟨⟨l,k⟩,hk,h⟩:=h
      injection h with hv h
      have:=zce hk
      subst hv; simp only at h; (try simp only[zaA]); (try simp only[zhR]); (try simp only[zgs]); omega
     ·split at h
      ·rename_i hw
       have:=zeD hw
       injection h with h; injection h with hv h; subst hv; (try simp only[zaA]); (try simp only[zhR]); (try simp only[zgs]); omega
      ·split at h
       ·rename_i hw
        have:=zeE hw
        injection h with h; injection h with hv h; subst hv; (try simp only[zaA]); (try simp only[zhR]); (try simp only[zgs]); omega
       ·split at h
        ·rename_i hw
         have:=zef hw
         injection h with h; injection h with hv h; subst hv; (try simp only[zaA]); (try simp only[zhR]); (try simp only[zgs]); omega
        ·simp only[yz] at h
         obtain⟨⟨l,k⟩,hk,h⟩:=h
         injection h with hv h
         have:=zrh hk
         subst hv; simp only at h; (try simp only[zaA]); (try simp only[zhR]); (try simp only[zgs]); omega
  ·rw[pa] at h
   simp only[Option.bind_eq_some_iff] at h
   obtain⟨⟨v,k⟩,hk,h⟩:=h
   have h1:=(zm8 s f i).1 v k hk
   have g1:=zaz s k
   simp only at h
   split at h
   ·have:=zaw (s:=s) (i:=sk s k) (by omega)
    injection h with h; injection h with hv h; subst hv; (try simp only[zaA]); (try simp only[zhR]); (try simp only[zgs]); omega
   ·split at h
    ·simp only[yz] at h
     obtain⟨⟨l,n⟩,hn,h⟩:=h
     injection h with hv h
     have:=(zm8 s f _).2.1 l n hn
     have g2:=zaz s (sk s k+1)
     subst hv; simp only at h; (try simp only[zhR]); (try simp only[zgs]); omega
    ·cases h
  ·rw[po] at h
   simp only[Option.bind_eq_some_iff] at h
   obtain⟨⟨key,a⟩,ha,h⟩:=h
   have h0:=zce ha
   simp only at h
   split at h
   ·simp only[Option.bind_eq_some_iff] at h
    obtain⟨⟨v,k⟩,hk,h⟩:=h
    have h1:=(zm8 s f _).1 v k hk
    have g0:=zaz s a
    have g3:=zaz s (sk s a+1)
    have g1:=zaz s k
    simp only at h
    split at h
    ·have:=zaw (s:=s) (i:=sk s k) (by omega)
     injection h with h; injection h with hv h; subst hv; (try simp only[zaA]); (try simp only[zhR]); (try simp only[zgs]); omega
    ·split at h
     ·simp only[yz] at h
      obtain⟨⟨l,n⟩,hn,h⟩:=h
      injection h with hv h
      have:=(zm8 s f _).2.2 l n hn
      have g2:=zaz s (sk s k+1)
      subst hv; simp only at h; (try simp only[zgs]); omega
     ·cases h
   ·cases h
theorem zrG {s:ByteArray} {i j:Nat} {v:JV} (h:val s i=some (v,j)) : zaA v+i<=j:=(zm8 s _ i).1 v j h
def zgz (s:ByteArray) : Option JV:=(val s (sk s 0)).bind fun q=>if sk s q.2=s.size then some q.1 else none
def zaZ (s:ByteArray) : Sum Nat JV:=
 if 20000 < s.size then .inl 1 else
 match zgz s with
 | none=>.inl 2
 | some v=>if zbf v then .inl 3 else if twV v then .inl 4 else if 100 < zaY v∨3000 < zaA v then .inl 5 else .inr v
theorem zfF {s:ByteArray} {v:JV} (h:zgz s=some v) : okV v/\zaA v<=s.size/\(ct v).length<=30*s.size:=by
 unfold zgz at h
 cases hv:val s (sk s 0) with
 | none=>rw[hv] at h; simp at h
 | some q=>
  obtain⟨u,j⟩:=q
  have e:u=v:=by
   rw[hv] at h
   simp only[yA] at h
   split at h
   ·injection h
   ·cases h
  subst e
  have h1:=zrG hv
  have h2:=zj7 hv
  have h3:=zeV hv
  exact⟨zrr hv,by omega,by omega⟩
def za5 (s:ByteArray) : Value:=match zaZ s with
 | .inl c=>.tuple #[.string ⟨#[]⟩,.int .i64 (c:Int)]
 | .inr v=>.tuple #[.string (zac (ct v)),.int .i64 0]
theorem zi2 {s:ByteArray} {v:JV} (h:zaZ s = .inr v) : s.size<=20000/\zgz s=some v/\twV v=false/\zbf v=false/\zaY v<=100/\zaA v<=3000:=by
 unfold zaZ at h
 split at h
 ·cases h
 ·rename_i hs
  cases hd:zgz s with
  | none=>rw[hd] at h; simp at h
  | some u=>
   rw[hd] at h
   simp only at h
   split at h
   ·cases h
   ·rename_i hb
    split at h
    ·cases h
    ·rename_i ht
     split at h
     ·cases h
     ·rename_i hg
      injection h with h
      subst h
      exact⟨by omega,rfl,by simpa using ht,by simpa using hb,by omega,by omega⟩
theorem zfG {s:ByteArray} {c:Nat} (h:zaZ s = .inl c) : 1<=c/\c<=5:=by
 unfold zaZ at h
 split at h
 ·injection h with h; omega
 ·split at h
  ·injection h with h; omega
  ·split at h
   ·injection h with h; omega
   ·split at h
    ·injection h with h; omega
    ·split at h
     ·injection h with h; omega
     ·cases h
def zm9 (t:List UInt8) : Bool:=decide (1<=t.length) && decide (t.length<=6) && !(decide ((t.getD 0 0).toNat=48) && decide (1 < t.length)) && t.all fun c=>zbo c.toNat
def zgh (t:List UInt8) : Option Nat:=if zm9 t=true then some (zeN t) else none
theorem zbs {t:List UInt8} : zm9 t=true↔1<=t.length/\t.length<=6/\¬ ((t.getD 0 0).toNat=48/\1 < t.length)/\∀ c∈t,zbo c.toNat=true:=by
 unfold zm9
 simp only[Bool.and_eq_true,decide_eq_true_eq,Bool.not_eq_true',Bool.and_eq_false_iff,decide_eq_false_iff_not,List.all_eq_true]
 constructor
 ·rintro⟨⟨⟨a,b⟩,c⟩,d⟩
  exact⟨a,b,fun ⟨x,y⟩=>c.elim (fun h=>h x) (fun h=>h y),d⟩
 ·rintro⟨a,b,c,d⟩
  refine⟨⟨⟨a,b⟩,?_⟩,d⟩
  by_cases h:(t.getD 0 0).toNat=48
  ·exact .inr fun y=>c ⟨h,y⟩
  ·exact .inl h
theorem ztK:∀ (n:Nat) (t:List UInt8),t.length=n->t≠[]->(t.getD 0 0).toNat≠48->(∀ c∈t,zbo c.toNat=true)->1<=zeN t:=by
 intro n
 induction n with
 | zero=>intro t h hn; exact absurd (yN h) hn
 | succ n ih=>
  intro t h _ h0 hd
  rcases List.eq_nil_or_concat t with e | ⟨a,c,e⟩
  ·subst e; simp at h
  ·rw[List.concat_eq_append] at e
   subst e
   rw[zc6]
   have hc:=zaH.1 (hd c (by simp))
   by_cases ha:a=[]
   ·subst ha
    have h0':c.toNat≠48:=h0
    simp[zeN]; omega
   ·have h1:(a.getD 0 0).toNat≠48:=by
     cases a with
     | nil=>exact absurd rfl ha
     | cons x r=>exact h0
    have:=ih a (by simpa using h) ha h1 (fun x hx=>hd x (by simp[hx]))
    omega
theorem zvQ:∀ (n:Nat) (t:List UInt8),t.length=n->t≠[]->¬ ((t.getD 0 0).toNat=48/\1 < t.length)->(∀ c∈t,zbo c.toNat=true)->zb5 (zeN t)=t:=by
 intro n
 induction n with
 | zero=>intro t h hn; exact absurd (yN h) hn
 | succ n ih=>
  intro t h _ h0 hd
  rcases List.eq_nil_or_concat t with e | ⟨a,c,e⟩
  ·subst e; simp at h
  ·rw[List.concat_eq_append] at e
   subst e
   have hc:=zaH.1 (hd c (by simp))
   have ec:UInt8.ofNat (48+(c.toNat - 48))=c:=by rw[show 48+(c.toNat - 48)=c.toNat by omega]; exact UInt8.ofNat_toNat
   rw[zc6]
   by_cases ha:a=[]
   ·subst ha
    simp only[zeN,List.foldl_nil,Nat.zero_mul,Nat.zero_add,List.nil_append]
    rw[zbZ (by omega),ec]
   ·have hal:1<=a.length:=by cases a with
     | nil=>exact absurd rfl ha
     | cons _ _=>simp
    have h1:(a.getD 0 0).toNat≠48:=by
     intro e
     refine h0 ⟨?_,by simp; omega⟩
     cases a with
     | nil=>exact absurd rfl ha
     | cons x r=>exact e
    have hda:∀ x∈a,zbo x.toNat=true:=fun x hx=>hd x (by simp[hx])
    have hp:=ztK _ a rfl ha h1 hda
    rw[zgg (by omega),show (zeN a*10+(c.toNat - 48)) / 10=zeN a by omega,show (zeN a*10+(c.toNat - 48)) % 10=c.toNat - 48 by omega,zbZ (n:=c.toNat - 48) (by omega),ec]
    rw[ih a (by simpa using h) ha (fun e=>h1 e.1) hda]
theorem zgL {t:List UInt8} {i:Nat} (h:zgh t=some i) : zb5 i=t:=by
 unfold zgh at h
 split at h
 ·rename_i hk
  injection h with h
  subst h
  obtain⟨a,b,c,d⟩:=zbs.1 hk
  exact zvQ _ t rfl (by intro e; subst e; simp at a) c d
 ·cases h
theorem zgM:∀ (n:Nat),zb5 n≠[]/\(∀ c∈zb5 n,zbo c.toNat=true)/\zeN (zb5 n)=n/\¬ (((zb5 n).getD 0 0).toNat=48/\1 < (zb5 n).length):=by
 intro n
 induction n using Nat.strongRecOn with
 | _ n ih=>
  by_cases h:n < 10
  ·rw[zbZ h]
   have e:(UInt8.ofNat (48+n)).toNat=48+n:=zbu (by omega)
   refine⟨by simp,fun c hc=>?_,?_,by simp⟩
   ·rw[List.mem_singleton] at hc; subst hc; rw[e]; exact zaH.2 ⟨by omega,by omega⟩
   ·simp only[zeN,List.foldl_cons,List.foldl_nil,Nat.zero_mul,Nat.zero_add]; rw[e]; omega
  ·obtain⟨a1,a2,a3,a4⟩:=ih (n / 10) (by omega)
   rw[zgg h,zbZ (n:=n % 10) (by omega)]
   have e:(UInt8.ofNat (48+n % 10)).toNat=48+n % 10:=zbu (by omega)
   refine⟨by simp,fun c hc=>?_,?_,?_⟩
   ·rcases List.mem_append.1 hc with hc | hc
    ·exact a2 c hc
    ·rw[List.mem_singleton] at hc; subst hc; rw[e]; exact zaH.2 ⟨by omega,by omega⟩
   ·rw[zc6,a3,e]; omega
   ·rintro⟨b1,_⟩
    have hh:((zb5 (n / 10)++[UInt8.ofNat (48+n % 10)]).getD 0 0)=(zb5 (n / 10)).getD 0 0:=by
     cases hd:zb5 (n / 10) with
     | nil=>exact absurd hd a1
     | cons x r=>rfl
    rw[hh] at b1
    by_cases h10:n / 10 < 10
    ·rw[zbZ h10] at b1
     have e2:(UInt8.ofNat (48+n / 10)).toNat=48+n / 10:=zbu (by omega)
     have:([UInt8.ofNat (48+n / 10)].getD 0 0).toNat=48+n / 10:=e2
     rw[this] at b1
     omega
    ·refine a4 ⟨b1,?_⟩
     rw[zgg h10,yh]
     have q1:=(ih (n / 10 / 10) (by omega)).1
     have q2:1<=(zb5 (n / 10 / 10)).length:=by cases hq:zb5 (n / 10 / 10) with
      | nil=>exact absurd hq q1
      | cons _ _=>simp
     rw[zbZ (n:=n / 10 % 10) (by omega)]
     simp; omega
theorem zfH {a b:Nat} (h:zb5 a=zb5 b) : a=b:=by
 have h1:=(zgM a).2.2.1
 have h2:=(zgM b).2.2.1
 rw[h,h2] at h1
 exact h1.symm
def zal:JV->List UInt8->Option JV
 | .arr l,t=>(zgh t).bind fun i=>l.toL[i]?
 | .obj m,t=>(m.toL.find? fun q=>q.1 == t).map (·.2)
 | _,_=>none
def za0:JV->List (List UInt8)->Option JV
 | v,[]=>some v
 | v,t :: ts=>(zal v t).bind fun u=>za0 u ts
theorem zay (l:JL) (t:List UInt8) : zal (.arr l) t=(zgh t).bind fun i=>l.toL[i]?:=rfl
theorem zbe (m:JM) (t:List UInt8) : zal (.obj m) t=(m.toL.find? fun q=>q.1 == t).map (·.2):=rfl
theorem zeK:∀ (a b:List (List UInt8)) (v:JV),za0 v (a++b)=(za0 v a).bind fun u=>za0 u b
 | [],b,v=>rfl
 | t :: r,b,v=>by
  rw[List.cons_append,za0,za0]
  cases zal v t with
  | none=>rfl
  | some u=>simp only[yA]; exact zeK r b u
theorem zh2 {v u:JV} {ts:List (List UInt8)} {k:Nat} (h:k < ts.length) (hu:za0 v (ts.take k)=some u) : za0 v (ts.take (k+1))=zal u ts[k]:=by
 rw[yy h,zeK,hu]
 simp only[yA,za0]
 cases zal u ts[k] <;> rfl
theorem zlv {v u:JV} {ts:List (List UInt8)} {k:Nat} (h:k < ts.length) (hu:za0 v (ts.take k)=some u) (hc:zal u ts[k]=none) : za0 v ts=none:=by
 have e:ts=ts.take (k+1)++ts.drop (k+1):=(List.take_append_drop _ _).symm
 rw[e,zeK,zh2 h hu,hc]
 rfl
theorem zrH:∀ (l:JL),okL l->twL l=false->∀ v∈l.toL,okV v/\twV v=false
 | .nil,_,_,v,hv=>by simp[JL.toL] at hv
 | .cons x r,h,t,v,hv=>by
  rw[okL] at h
  rw[twL,Bool.or_eq_false_iff] at t
  rw[JL.toL] at hv
  rcases List.mem_cons.1 hv with e | hv
  ·rw[e]; exact⟨h.1,t.1⟩
  ·exact zrH r h.2 t.2 v hv
theorem zrI:∀ (m:JM) (ks:List (List UInt8)),okM m->twM ks m=false->∀ q∈m.toL,okV q.2/\twV q.2=false
 | .nil,_,_,_,q,hq=>by simp[JM.toL] at hq
 | .cons k x r,ks,h,t,q,hq=>by
  rw[okM] at h
  rw[twM] at t
  simp only[Bool.or_eq_false_iff] at t
  rw[JM.toL] at hq
  rcases List.mem_cons.1 hq with e | hq
  ·rw[e]; exact⟨h.2.1,t.1.1⟩
  ·exact zrI r (ks++[k]) h.2.2 t.2 q hq
theorem zbG {v u:JV} {t:List UInt8} (h:zal v t=some u) (hok:okV v) (htw:twV v=false) : okV u/\twV u=false/\(ct u).length<=(ct v).length/\zaA u<=zaA v:=by
 cases v with
 | arr l=>
  rw[okV] at hok
  rw[twV] at htw
  rw[zay] at h
  cases hi:zgh t with
  | none=>rw[hi] at h; simp at h
  | some i=>
   rw[hi] at h
   simp only[yA] at h
   obtain⟨hl,rfl⟩:=List.getElem?_eq_some_iff.1 h
   have hm:=yr hl
   obtain⟨a,b⟩:=zrH l hok htw _ hm
   refine⟨a,b,?_,?_⟩
   ·have hct:(ct (.arr l)).length=hold (ctL l).length+nl (ctL l):=by
     show (mkA (ctL l)).length=_
     have:=zeJ (ctL l)
     simp[mkA]; omega
    have n1:(ct l.toL[i]).length<=nl (ctL l):=by have:=zfE ((ctL l).map List.length) i (by rw[zaG]; simpa using hl); simpa [nl,zaG] using this
    omega
   ·rw[zaA,zh1]
    have:=zfE (l.toL.map zaA) i (by simpa using hl)
    have c1:zaA l.toL[i]<=cl l.toL:=by simpa [cl] using this
    omega
 | obj m=>
  rw[okV] at hok
  rw[twV] at htw
  rw[zbe] at h
  cases hf:m.toL.find? fun q=>q.1 == t with
  | none=>rw[hf] at h; simp at h
  | some q=>
   rw[hf] at h
   simp at h
   subst h
   have hm:=List.mem_of_find?_eq_some hf
   obtain⟨a,b⟩:=zrI m [] hok htw _ hm
   refine⟨a,b,?_,?_⟩
   ·have hct:=zbd m
    have n1:=zdN zdT hm
    simp only[zdT] at n1
    omega
   ·rw[zaA,zdM]
    have:zaA q.2<=_:=zdN (fun q=>zaA q.2) hm
    omega
 | nul=>simp[zal] at h
 | tt=>simp[zal] at h
 | ff=>simp[zal] at h
 | num l=>simp[zal] at h
 | str l=>simp[zal] at h
theorem zh3:∀ (cs:List (List UInt8)) (b j:Nat) (h:j < (ze7 b cs).length),(ze7 b cs)[j]=(zb5 (b+j),cs[j]'(by rw[zcA] at h; exact h))
 | [],b,j,h=>by simp[ze7] at h
 | t :: r,b,0,h=>rfl
 | t :: r,b,j+1,h=>by
  simp only[ze7,List.getElem_cons_succ]
  rw[zh3 r (b+1) j]
  rw[show b+1+j=b+(j+1) by omega]
theorem zdO {v:JV} {t:List UInt8} (hok:okV v) (htw:twV v=false) (hi:(∃ l,v = .arr l)->(zgh t).isSome=true) {j:Nat} (hj:j < (zae v).length) (hk:(zae v)[j].1=t) : ∃ u,zal v t=some u/\(zae v)[j].2=ct u:=by
 cases v with
 | arr l=>
  have hp:zae (.arr l)=ze7 0 (ctL l):=rfl
  have hs:=hi ⟨l,rfl⟩
  cases hx:zgh t with
  | none=>rw[hx] at hs; simp at hs
  | some i=>
   have e1:=zh3 (ctL l) 0 j hj
   have e2:(zae (.arr l))[j]=(zb5 (0+j),(ctL l)[j]'(by rw[hp,zcA] at hj; exact hj)):=e1
   rw[e2] at hk ⊢
   simp only[Nat.zero_add] at hk ⊢
   have:j=i:=zfH (hk.trans (zgL hx).symm)
   subst this
   have hl:j < l.toL.length:=by rw[hp,zcA,zaG,yl] at hj; exact hj
   refine⟨l.toL[j],?_,?_⟩
   ·rw[zay,hx]; simp[hl]
   ·simp[zaG]
 | obj m=>
  have hm:(zae (.obj m))[j]∈ctM m:=(zap _).subset (yr hj)
  generalize (zae (.obj m))[j]=p at *
  rw[zaK] at hm
  obtain⟨q,hq,rfl⟩:=yO.1 hm
  simp only at hk
  rw[twV] at htw
  have hnd:(m.toL.map (·.1)).Nodup:=by rw[← zaB]; exact (zei m [] htw).1
  refine⟨q.2,?_,rfl⟩
  rw[zbe]
  have hf:m.toL.find? (fun q=>q.1 == t)=some q:=by
   have:∀ l:List (List UInt8×JV),(l.map (·.1)).Nodup->q∈l->l.find? (fun q=>q.1 == t)=some q:=by
    intro l
    induction l with
    | nil=>intro _ h; simp at h
    | cons x r ih=>
     intro hn hin
     rw[yi,List.nodup_cons] at hn
     rw[List.find?_cons]
     rcases List.mem_cons.1 hin with e | hin
     ·subst e; simp[hk]
     ·have hne:(x.1 == t)=false:=by
       rw[yd]
       intro e
       exact hn.1 (by rw[e,← hk]; exact yO.2 ⟨q,hin,rfl⟩)
      rw[hne]
      exact ih hn.2 hin
   exact this m.toL hnd hq
  rw[hf]; rfl
 | nul=>simp[zae] at hj
 | tt=>simp[zae] at hj
 | ff=>simp[zae] at hj
 | num l=>simp[zae] at hj
 | str l=>simp[zae] at hj
theorem zcX {v:JV} {t:List UInt8} (h:∀ j (hj:j < (zae v).length),(zae v)[j].1≠t) : zal v t=none:=by
 cases v with
 | arr l=>
  rw[zay]
  cases hx:zgh t with
  | none=>rfl
  | some i=>
   simp only[yA]
   by_cases hl:i < l.toL.length
   ·exfalso
    have hj:i < (zae (.arr l)).length:=by show i < (ze7 0 (ctL l)).length; rw[zcA,zaG,yl]; exact hl
    refine h i hj ?_
    have e1:(zae (.arr l))[i]=_:=zh3 (ctL l) 0 i hj
    rw[e1]
    simp only[Nat.zero_add]
    exact zgL hx
   ·rw[List.getElem?_eq_none (by omega)]
 | obj m=>
  rw[zbe]
  have hf:m.toL.find? (fun q=>q.1 == t)=none:=by
   rw[List.find?_eq_none]
   intro q hq e
   have hm:(q.1,ct q.2)∈ctM m:=by rw[zaK]; exact yO.2 ⟨q,hq,rfl⟩
   have hp:(q.1,ct q.2)∈zae (.obj m):=(zap _).mem_iff.2 hm
   obtain⟨j,hj,he⟩:=List.getElem_of_mem hp
   refine h j hj ?_
   rw[he]
   simpa using e
  rw[hf]; rfl
 | nul=>rfl
 | tt=>rfl
 | ff=>rfl
 | num l=>rfl
 | str l=>rfl
def zuw (p:List UInt8×JV) : List (List UInt8×JV)->List (List UInt8×JV)
 | []=>[p]
 | q :: r=>if p.1 < q.1 then q :: zuw p r else p :: q :: r
def zgt (l:List (List UInt8×JV)) : List (List UInt8×JV):=(l.foldl (fun acc p=>zuw p acc) []).reverse
def ziv:Nat->List JV->List (List UInt8×JV)
 | _,[]=>[]
 | b,v :: r=>(zb5 b,v) :: ziv (b+1) r
def zh4:JV->List (List UInt8×JV)
 | .arr l=>ziv 0 l.toL
 | .obj m=>zgt m.toL
 | _=>[]
def kt (q:List UInt8×JV) : List UInt8×List UInt8:=(q.1,ct q.2)
theorem zrJ (p:List UInt8×JV) : ∀ l:List (List UInt8×JV),(zuw p l).map kt=zeW (kt p) (l.map kt)
 | []=>rfl
 | q :: r=>by
  rw[zuw,yi,zeW]
  by_cases h:p.1 < q.1
  ·have h':(kt p).1 < (kt q).1:=h
   rw[yg h,yg h',yi,zrJ p r]
  ·have h':¬ (kt p).1 < (kt q).1:=h
   rw[yf h,yf h',yi,yi]
theorem zoc:∀ (l acc:List (List UInt8×JV)),(l.foldl (fun acc p=>zuw p acc) acc).map kt=(l.map kt).foldl (fun acc p=>zeW p acc) (acc.map kt)
 | [],acc=>rfl
 | p :: l,acc=>by rw[List.foldl_cons,yi,List.foldl_cons,zoc l,zrJ]
theorem zlw (l:List (List UInt8×JV)) : (zgt l).map kt=zaq (l.map kt):=by
 unfold zgt zaq
 rw[List.map_reverse,zoc]
 rfl
theorem zlx (p:List UInt8×JV) : ∀ l,(zuw p l).Perm (p :: l)
 | []=>List.Perm.refl _
 | q :: r=>by
  unfold zuw
  split
  ·exact ((zlx p r).cons q).trans (List.Perm.swap p q r)
  ·exact List.Perm.refl _
theorem zi3:∀ (l acc:List (List UInt8×JV)),(l.foldl (fun acc p=>zuw p acc) acc).Perm (l++acc)
 | [],acc=>List.Perm.refl _
 | p :: l,acc=>by
  rw[List.foldl_cons]
  exact (zi3 l _).trans (((zlx p acc).append_left l).trans (List.perm_middle))
theorem zdP (l:List (List UInt8×JV)) : (zgt l).Perm l:=by
 unfold zgt
 have:=zi3 l []
 rw[List.append_nil] at this
 exact (List.reverse_perm _).trans this
theorem zrK:∀ (vs:List JV) (b:Nat),(ziv b vs).map kt=ze7 b (vs.map ct)
 | [],_=>rfl
 | v :: r,b=>by rw[ziv,yi,yi,ze7,zrK r]; rfl
theorem zgN:∀ (vs:List JV) (b:Nat),(ziv b vs).length=vs.length
 | [],_=>rfl
 | v :: r,b=>by rw[ziv,yn,yn,zgN r]
theorem zna:∀ (vs:List JV) (b j:Nat) (h:j < (ziv b vs).length),(ziv b vs)[j]=(zb5 (b+j),vs[j]'(by rw[zgN] at h; exact h))
 | [],b,j,h=>by simp[ziv] at h
 | t :: r,b,0,h=>rfl
 | t :: r,b,j+1,h=>by
  simp only[ziv,List.getElem_cons_succ]
  rw[zna r (b+1) j]
  rw[show b+1+j=b+(j+1) by omega]
theorem zgO:∀ (vs:List JV) (b:Nat),(ziv b vs).map (·.2)=vs
 | [],_=>rfl
 | v :: r,b=>by rw[ziv,yi,zgO r]
theorem zi4 (v:JV) : zae v=(zh4 v).map kt:=by
 cases v with
 | arr l=>show ze7 0 (ctL l)=(ziv 0 l.toL).map kt; rw[zrK,zaG]
 | obj m=>show zaq (ctM m)=(zgt m.toL).map kt; rw[zlw,zaK]; rfl
 | nul=>rfl
 | tt=>rfl
 | ff=>rfl
 | num l=>rfl
 | str l=>rfl
theorem zly:∀ (vs:List JV) (v:JV),v∈vs->zaY v<=dl vs
 | [],v,h=>by simp at h
 | x :: r,v,h=>by
  rw[dl]
  rcases List.mem_cons.1 h with rfl | h
  ·omega
  ·have:=zly r v h; omega
theorem zrL {v:JV} (hok:okV v) (htw:twV v=false) {q:List UInt8×JV} (hq:q∈zh4 v) : okV q.2/\twV q.2=false/\zaY q.2+1<=zaY v/\q.1.length+(ct q.2).length+1<=(ct v).length:=by
 cases v with
 | arr l=>
  rw[okV] at hok
  rw[twV] at htw
  have hq':q∈ziv 0 l.toL:=hq
  obtain⟨j,hj,rfl⟩:=List.getElem_of_mem hq'
  have hl:j < l.toL.length:=by rw[zgN] at hj; exact hj
  rw[zna]
  simp only[Nat.zero_add]
  have hm:=yr hl
  obtain⟨a,b⟩:=zrH l hok htw _ hm
  have hd:=zly _ _ hm
  have e:=ze5 l
  have hct:(ct (.arr l)).length=hold (ctL l).length+nl (ctL l):=by
   show (mkA (ctL l)).length=_
   have:=zeJ (ctL l)
   simp[mkA]; omega
  have n1:(ct l.toL[j]).length<=nl (ctL l):=by have:=zfE ((ctL l).map List.length) j (by rw[zaG]; simpa using hl); simpa [nl,zaG] using this
  have n2:=zj0 j
  have n3:(ctL l).length=l.toL.length:=by rw[zaG,yl]
  refine⟨a,b,?_,?_⟩
  ·rw[zaY]; omega
  ·rw[hct]; unfold hold; omega
 | obj m=>
  rw[okV] at hok
  rw[twV] at htw
  have hm:q∈m.toL:=(zdP _).subset hq
  obtain⟨a,b⟩:=zrI m [] hok htw _ hm
  have hd:=zly (m.toL.map (·.2)) q.2 (yO.2 ⟨q,hm,rfl⟩)
  have e:=zdL m
  have hct:=zbd m
  have n1:=zdN zdT hm
  simp only[zdT] at n1
  have n2:=zcO q.1
  refine⟨a,b,?_,?_⟩
  ·rw[zaY]; omega
  ·omega
 | nul=>simp[zh4] at hq
 | tt=>simp[zh4] at hq
 | ff=>simp[zh4] at hq
 | num l=>simp[zh4] at hq
 | str l=>simp[zh4] at hq
theorem zj8 (v:JV) : zaA v=((zh4 v).map fun q=>zaA q.2).sum+1:=by
 cases v with
 | arr l=>
  rw[zaA,zh1]
  show cl l.toL+1=((ziv 0 l.toL).map fun q=>zaA q.2).sum+1
  have e:((ziv 0 l.toL).map fun q=>zaA q.2)=((ziv 0 l.toL).map (·.2)).map zaA:=by rw[List.map_map]; rfl
  rw[e,zgO]; rfl
 | obj m=>
  rw[zaA,zdM]
  show _=((zgt m.toL).map fun q=>zaA q.2).sum+1
  rw[((zdP m.toL).map fun q=>zaA q.2).sum_nat]
 | nul=>rfl
 | tt=>rfl
 | ff=>rfl
 | num l=>rfl
 | str l=>rfl
theorem zlz {T:ByteArray} : ∀ (f f' op i k k':Nat),zfz T f op i=some k->zfz T f' op i=some k'->k=k'
 | 0,_,_,_,_,_,h,_=>by simp[zfz] at h
 | _+1,0,_,_,_,_,_,h=>by simp[zfz] at h
 | f+1,f'+1,op,i,k,k',h,h'=>by
  rw[zfz] at h h'
  by_cases hi:i < T.size
  ·rw[yg hi] at h h'
   cases hn:nxt T i with
   | none=>rw[hn] at h; simp at h
   | some j=>
    rw[hn] at h h'
    simp only[yA] at h h'
    cases ho:op1 (bt T i) op with
    | none=>rw[ho] at h; simp at h
    | some o=>
     rw[ho] at h h'
     simp only[yA] at h h'
     by_cases hs:o=0/\zej T j=true
     ·rw[yg hs] at h h'
      injection h with h; injection h' with h'
      omega
     ·rw[yf hs] at h h'
      exact zlz f f' o j k k' h h'
  ·rw[yf hi] at h; cases h
def zyp (T:ByteArray) (P:List UInt8->Prop) : Prop:=∀ t t',P t->P t'->∀ i m m',T.data.toList.drop i=t++m->zlm m->T.data.toList.drop i=t'++m'->zlm m'->t=t'
theorem zod (T:ByteArray) : zyp T fun t=>zln T t/\t≠[]:=fun t t' h h' i m m' d s d' s'=>by
 obtain⟨f,hf⟩:=h.1 i m d s
 obtain⟨f',hf'⟩:=h'.1 i m' d' s'
 have:=zlz f f' 0 i _ _ hf hf'
 rw[d] at d'
 exact (List.append_inj d' (by omega)).1
theorem ztL (T:ByteArray) : zyp T fun t=>∃ p:List UInt8×List UInt8,t=zav p/\zln T p.2/\p.2≠[]/\Lib.validD p.1=true:=by
 rintro t t' ⟨p,rfl,h1,h2,h3⟩ ⟨q,rfl,k1,k2,k3⟩ i m m' d s d' s'
 have d1:T.data.toList.drop i=quoted p.1++(58 :: (p.2++m)):=by rw[d]; simp[zav]
 have d2:T.data.toList.drop i=quoted q.1++(58 :: (q.2++m')):=by rw[d']; simp[zav]
 have e1:=zc2 p.1 T _ h3 i d1
 have e2:=zc2 q.1 T _ k3 i d2
 rw[e1] at e2
 injection e2 with e2
 injection e2 with e2 _
 rw[← e2] at d2
 have d3:T.data.toList.drop (i+(quoted p.1).length+1)=p.2++m:=(zan (T:=T) (c:=58) (zaF d1)).2.2
 have d4:T.data.toList.drop (i+(quoted p.1).length+1)=q.2++m':=(zan (T:=T) (c:=58) (zaF d2)).2.2
 have:=zod T p.2 q.2 ⟨h1,h2⟩ ⟨k1,k2⟩ _ m m' d3 s d4 s'
 unfold zav
 rw[e2,this]
theorem zlA {T:ByteArray} {P:List UInt8->Prop} (hP:zyp T P) (hne:∀ t,P t->t≠[]) {cs ds:List (List UInt8)} {a a' c c':UInt8} (h:T.data.toList=a :: (joinC cs++[c])) (h':T.data.toList=a' :: (joinC ds++[c'])) (hc:c.toNat=93∨c.toNat=125) (hc':c'.toNat=93∨c'.toNat=125) (t1:∀ t∈cs,P t) (t2:∀ t∈ds,P t) : cs=ds:=by
 have key:∀ k,k<=cs.length->k<=ds.length->cs.take k=ds.take k:=by
  intro k
  induction k with
  | zero=>intro _ _; simp
  | succ k ih=>
   intro h1 h2
   have e:=ih (by omega) (by omega)
   have d1:=zhZ h k (by omega)
   have d2:=zhZ h' k (by omega)
   have ep:pk cs k=pk ds k:=by unfold pk; rw[e]
   rw[← ep] at d2
   have:=hP _ _ (t1 _ (yr (by omega:k < cs.length))) (t2 _ (yr (by omega:k < ds.length))) _ _ _ d1 (zeI _ c hc) d2 (zeI _ c' hc')
   rw[yy (by omega),yy (by omega),e,this]
 have short:∀ {xs ys:List (List UInt8)} {b b' e e':UInt8},T.data.toList=b :: (joinC xs++[e])->T.data.toList=b' :: (joinC ys++[e'])->(∀ t∈ys,P t)->xs.take xs.length=ys.take xs.length->¬ xs.length < ys.length:=by
  intro xs ys b b' e e' hx hy ty hk hlt
  have p1:=zlr hx
  have p2:=zrw hy xs.length hlt
  have ep:pk xs xs.length=pk ys xs.length:=by unfold pk; rw[hk]
  have hn:=hne _ (ty _ (yr hlt))
  have:1<=(ys[xs.length]).length:=by
   cases hq:ys[xs.length] with
   | nil=>exact absurd hq hn
   | cons _ _=>simp
  omega
 have l1:¬ cs.length < ds.length:=fun hl=>short h h' t2 (key _ (ye _) (by omega)) hl
 have l2:¬ ds.length < cs.length:=fun hl=>short h' h t1 (key _ (by omega) (ye _)).symm hl
 have el:cs.length=ds.length:=by omega
 have:=key cs.length (ye _) (by omega)
 rwa [yq (ye _),yq (by omega)] at this
theorem zxz {l m:JL} (hl:okL l) (hm:okL m) (h:ct (.arr l)=ct (.arr m)) : ctL l=ctL m:=by
 have e1:(zac (ct (.arr l))).data.toList=91 :: (joinC (ctL l)++[93]):=by rw[zad]; rfl
 have e2:(zac (ct (.arr l))).data.toList=91 :: (joinC (ctL m)++[93]):=by rw[zad,h]; rfl
 exact zlA (zod _) (fun t ht=>ht.2) e1 e2 (.inl rfl) (.inl rfl) (zj1 _ l hl) (zj1 _ m hm)
theorem zoe {p q:List UInt8×List UInt8} (hp:Lib.validD p.1=true) (hq:Lib.validD q.1=true) (h:zav p=zav q) : p=q:=by
 have d1:(zac (zav p)).data.toList.drop 0=quoted p.1++(58 :: p.2):=by rw[zad]; rfl
 have d2:(zac (zav p)).data.toList.drop 0=quoted q.1++(58 :: q.2):=by rw[zad,h]; rfl
 have e1:=zc2 p.1 _ _ hp 0 d1
 have e2:=zc2 q.1 _ _ hq 0 d2
 rw[e1] at e2
 injection e2 with e2
 injection e2 with e2 _
 rw[d1,e2] at d2
 have:=List.append_cancel_left d2
 injection this with _ this
 exact Prod.ext e2 this
theorem zgu:∀ {ps qs:List (List UInt8×List UInt8)},(∀ p∈ps,Lib.validD p.1=true)->(∀ p∈qs,Lib.validD p.1=true)->ps.map zav=qs.map zav->ps=qs
 | [],[],_,_,_=>rfl
 | [],_ :: _,_,_,h=>by simp at h
 | _ :: _,[],_,_,h=>by simp at h
 | p :: ps,q :: qs,h1,h2,h=>by
  rw[yi,yi] at h
  injection h with a b
  rw[zoe (h1 p yp) (h2 q yp) a,zgu (fun x hx=>h1 x (yv _ hx)) (fun x hx=>h2 x (yv _ hx)) b]
theorem zxA {k m:JM} (hk:okM k) (hm:okM m) (h:ct (.obj k)=ct (.obj m)) : zaq (ctM k)=zaq (ctM m):=by
 have e1:(zac (ct (.obj k))).data.toList=123 :: (joinC ((zaq (ctM k)).map zav)++[125]):=by rw[zad]; rfl
 have e2:(zac (ct (.obj k))).data.toList=123 :: (joinC ((zaq (ctM m)).map zav)++[125]):=by rw[zad,h]; rfl
 have g1:=fun p (hp:p∈zaq (ctM k))=>zj2 (zac (ct (.obj k))) k hk p ((zap _).subset hp)
 have g2:=fun p (hp:p∈zaq (ctM m))=>zj2 (zac (ct (.obj k))) m hm p ((zap _).subset hp)
 have:=zlA (ztL _) (fun t ht=>by obtain⟨p,rfl,_⟩:=ht; simp[zav,quoted]) e1 e2 (.inr rfl) (.inr rfl)
  (fun t ht=>by obtain⟨p,hp,rfl⟩:=yO.1 ht; exact⟨p,rfl,g1 p hp⟩) (fun t ht=>by obtain⟨p,hp,rfl⟩:=yO.1 ht; exact⟨p,rfl,g2 p hp⟩)
 exact zgu (fun p hp=>(g1 p hp).2.2) (fun p hp=>(g2 p hp).2.2) this
theorem zpv {a b:List UInt8} (ha:Lib.validD a=true) (hb:Lib.validD b=true) (h:quoted a=quoted b) : a=b:=by
 have:=zoe (p:=(a,[])) (q:=(b,[])) ha hb (by unfold zav; simp only; rw[h])
 injection this
def kd:JV->Nat
 | .nul=>0 | .tt=>1 | .ff=>2 | .num _=>3 | .str _=>4 | .arr _=>5 | .obj _=>6
def fb (c:Nat) : Nat:=if c=110 then 0 else if c=116 then 1 else if c=102 then 2 else if c=34 then 4 else if c=91 then 5 else if c=123 then 6 else 3
theorem zlB {v:JV} (h:okV v) : ∃ c r,ct v=c :: r/\fb c.toNat=kd v:=by
 cases v with
 | nul=>exact⟨_,_,rfl,rfl⟩
 | tt=>exact⟨_,_,rfl,rfl⟩
 | ff=>exact⟨_,_,rfl,rfl⟩
 | num l=>
  rw[okV] at h
  obtain⟨c,r,rfl,hc,_⟩:=h
  refine⟨c,r,rfl,?_⟩
  have:c.toNat=45∨(48<=c.toNat/\c.toNat<=57):=hc.imp id zaH.1
  unfold fb kd
  repeat (rw[yf (by omega)])
 | str l=>exact⟨_,_,rfl,rfl⟩
 | arr l=>exact⟨_,_,rfl,rfl⟩
 | obj m=>exact⟨_,_,rfl,rfl⟩
theorem zyq {a b:JV} (ha:okV a) (hb:okV b) (h:ct a=ct b) : kd a=kd b:=by
 obtain⟨c,r,e,f⟩:=zlB ha
 obtain⟨c',r',e',f'⟩:=zlB hb
 rw[e,e'] at h
 injection h with h _
 rw[← f,← f',h]
def zeX:JV->JV->Bool
 | .nul,.nul=>true
 | .tt,.tt=>true
 | .ff,.ff=>true
 | .num a,.num b=>a == b
 | .str a,.str b=>a == b
 | _,_=>false
theorem zvR {a b:JV} (h:zeX a b=true) : ct a=ct b:=by
 unfold zeX at h
 split at h <;> first | rfl | (rw[yC] at h; rw[h]) | cases h
theorem zvS {a b:JV} (ha:okV a) (hb:okV b) (h:ct a=ct b) : zeX a b=true∨(∃ l m,a = .arr l/\b = .arr m)∨∃ k m,a = .obj k/\b = .obj m:=by
 have hk:=zyq ha hb h
 cases a with
 | nul=>cases b <;> first | exact .inl rfl | (simp[kd] at hk)
 | tt=>cases b <;> first | exact .inl rfl | (simp[kd] at hk)
 | ff=>cases b <;> first | exact .inl rfl | (simp[kd] at hk)
 | num l=>cases b with
  | num m=>left; have:l=m:=h; simp[zeX,this]
  | _=>simp[kd] at hk
 | str l=>cases b with
  | str m=>left; rw[okV] at ha hb; have:l=m:=zpv ha hb h; simp[zeX,this]
  | _=>simp[kd] at hk
 | arr l=>cases b with
  | arr m=>exact .inr (.inl ⟨l,m,rfl,rfl⟩)
  | _=>simp[kd] at hk
 | obj l=>cases b with
  | obj m=>exact .inr (.inr ⟨l,m,rfl,rfl⟩)
  | _=>simp[kd] at hk
def zh5 (x:List UInt8) : List (List UInt8)->List (List UInt8)
 | []=>[x]
 | y :: r=>if y < x then y :: zh5 x r else if y=x then y :: r else x :: y :: r
def zcf (l:List (List UInt8)) : List (List UInt8):=l.foldl (fun acc x=>zh5 x acc) []
theorem zj9 {z x:List UInt8} : ∀ {l:List (List UInt8)},z∈zh5 x l↔z=x∨z∈l
 | []=>by simp[zh5]
 | y :: r=>by
  rw[zh5]
  split
  ·rw[List.mem_cons,zj9,List.mem_cons]
   constructor
   ·rintro (h | h | h)
    ·exact .inr (.inl h)
    ·exact .inl h
    ·exact .inr (.inr h)
   ·rintro (h | h | h)
    ·exact .inr (.inl h)
    ·exact .inl h
    ·exact .inr (.inr h)
  ·split
   ·rename_i h; subst h
    constructor
    ·intro h; exact .inr h
    ·rintro (h | h)
     ·rw[h]; exact yp
     ·exact h
   ·rw[List.mem_cons]
theorem zlC {z:List UInt8} : ∀ (l acc:List (List UInt8)),z∈l.foldl (fun acc x=>zh5 x acc) acc↔z∈acc∨z∈l
 | [],acc=>by simp
 | x :: l,acc=>by
  rw[List.foldl_cons,zlC l,zj9,List.mem_cons]
  constructor
  ·rintro ((h | h) | h)
   ·exact .inr (.inl h)
   ·exact .inl h
   ·exact .inr (.inr h)
  ·rintro (h | h | h)
   ·exact .inl (.inr h)
   ·exact .inl (.inl h)
   ·exact .inr h
theorem zrM {z:List UInt8} {l:List (List UInt8)} : z∈zcf l↔z∈l:=by
 unfold zcf; rw[zlC]; simp
def UpS (l:List (List UInt8)) : Prop:=l.Pairwise (fun a b=>a < b)
theorem zrN {x:List UInt8} : ∀ {l:List (List UInt8)},UpS l->UpS (zh5 x l)
 | [],_=>by simp[zh5,UpS]
 | y :: r,h=>by
  unfold UpS at *
  rw[List.pairwise_cons] at h
  rw[zh5]
  split
  ·rename_i hlt
   rw[List.pairwise_cons]
   refine⟨fun a ha=>?_,zrN h.2⟩
   rcases zj9.1 ha with rfl | ha
   ·exact hlt
   ·exact h.1 a ha
  ·split
   ·rw[List.pairwise_cons]; exact h
   ·rename_i h1 h2
    have hxy:x < y:=by
     rcases Classical.em (x < y) with g | g
     ·exact g
     ·exact absurd (List.le_antisymm (List.not_lt.1 g) (List.not_lt.1 h1)) h2
    rw[List.pairwise_cons,List.pairwise_cons]
    refine⟨fun a ha=>?_,h⟩
    rcases List.mem_cons.1 ha with rfl | ha
    ·exact hxy
    ·exact List.lt_trans hxy (h.1 a ha)
theorem zof:∀ (l acc:List (List UInt8)),UpS acc->UpS (l.foldl (fun acc x=>zh5 x acc) acc)
 | [],_,h=>h
 | x :: l,acc,h=>by rw[List.foldl_cons]; exact zof l _ (zrN h)
theorem zog (l:List (List UInt8)) : UpS (zcf l):=zof l [] List.Pairwise.nil
theorem zux:∀ {a b:List (List UInt8)},UpS a->UpS b->(∀ z,z∈a↔z∈b)->a=b
 | [],[],_,_,_=>rfl
 | [],y :: _,_,_,h=>by have:=(h y).2 yp; simp at this
 | x :: _,[],_,_,h=>by have:=(h x).1 yp; simp at this
 | x :: r,y :: s,ha,hb,h=>by
  unfold UpS at ha hb
  rw[List.pairwise_cons] at ha hb
  have e:x=y:=by
   rcases List.mem_cons.1 ((h x).1 yp) with e | h1
   ·exact e
   ·rcases List.mem_cons.1 ((h y).2 yp) with e | h2
    ·exact e.symm
    ·exact absurd (List.lt_trans (hb.1 x h1) (ha.1 y h2)) (List.lt_irrefl _)
  subst e
  rw[zux (a:=r) (b:=s) ha.2 hb.2 (fun z=>?_)]
  constructor
  ·intro hz
   rcases List.mem_cons.1 ((h z).1 (yv _ hz)) with e | h1
   ·exact absurd (ha.1 z hz) (by rw[e]; exact List.lt_irrefl _)
   ·exact h1
  ·intro hz
   rcases List.mem_cons.1 ((h z).2 (yv _ hz)) with e | h1
   ·exact absurd (hb.1 z hz) (by rw[e]; exact List.lt_irrefl _)
   ·exact h1
end Go.Proofs.YtekpghcckdjnhaaGreatDoor
