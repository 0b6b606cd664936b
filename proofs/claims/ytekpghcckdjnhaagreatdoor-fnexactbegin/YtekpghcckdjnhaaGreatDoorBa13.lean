import Derived.Test.YtekpghcckdjnhaaGreatDoorBa5
import Derived.Test.YtekpghcckdjnhaaGreatDoorBa12
import Derived.Test.YtekpghcckdjnhaaGreatDoorBa8
set_option maxRecDepth 100000
set_option maxHeartbeats 8000000
namespace Go.Proofs.YtekpghcckdjnhaaGreatDoor
open Go.RowKit Go.Proofs.Tryz
def zbp (s:ByteArray) : Bool:=match zaZ s with
 | .inl _=>false
 | .inr v=>(zac (ct v)).toList == s.toList
theorem zkq {s:ByteArray} : zbp s=true↔∃ v,zaZ s = .inr v/\zac (ct v)=s:=by
 unfold zbp
 cases h:zaZ s with
 | inl c=>simp
 | inr v=>
  simp only[yC]
  constructor
  ·intro e
   refine⟨v,rfl,?_⟩
   rw[ByteArray.toList_eq,ByteArray.toList_eq] at e
   have:(zac (ct v)).data=s.data:=Array.toList_inj.1 e
   exact congrArg ByteArray.mk this
  ·rintro⟨v',e1,e2⟩
   injection e1 with e1
   subst e1
   rw[e2]
theorem zso {s:ByteArray} {c:Nat} (h:zaZ s = .inl c) : c≠0:=by
 unfold zaZ at h
 repeat' split at h
 all_goals first
  | (injection h with h; omega)
  | cases h
theorem zkr (s:ByteArray) (w:World) (hs:s.size<=1048576) :
  Calls prog 64 #[.string s] w fun e w'=>e = .returned (.bool (zbp s))/\Below w.heap.size w w':=by
 have HC:=zab (zcY s w hs)
 cases hr:zaZ s with
 | inl c=>
  have hc:=zso hr
  have hv:za5 s = .tuple #[.string ⟨#[]⟩,.int .i64 (c:Int)]:=by unfold za5; rw[hr]
  have hg:zbp s=false:=by unfold zbp; rw[hr]
  rw[hv] at HC
  rw[hg]
  have hcI:((c:Int) == 0)=false:=by simp only[yd,ne_eq]; omega
  clear hr hc hv hg
  go_enter func64,ntmps64
  go_wp2_with fail
  refine (uh HC).mono ?_
  rintro e w1 ⟨rfl,b1⟩
  clear HC
  go_wp2
  go_ret
  exact⟨rfl,b1⟩
 | inr v=>
  have hv:za5 s = .tuple #[.string (zac (ct v)),.int .i64 0]:=by unfold za5; rw[hr]
  have hg:zbp s=((zac (ct v)).toList == s.toList):=by unfold zbp; rw[hr]
  rw[hv] at HC
  rw[hg]
  clear hr hv hg
  generalize zac (ct v)=u at *
  go_enter func64,ntmps64
  go_wp2_with fail
  refine (uh HC).mono ?_
  rintro e w1 ⟨rfl,b1⟩
  clear HC
  go_wp2
  go_ret
  exact⟨rfl,b1⟩
def zc9 (k:Int) : Bool:=k == 1 || k == 3 || k == 6
def zfN (k:Int) : Bool:=k == 4 || k == 5
theorem zks (k:Int) (w:World) : Calls prog 90 #[.int .i64 k] w fun e w'=>e = .returned (.bool (zc9 k))/\w=w':=by
 unfold zc9
 by_cases h1:k=1
 ·subst h1
  go_enter func90,ntmps90
  go_wp2
  go_ret
  exact⟨rfl,rfl⟩
 ·by_cases h3:k=3
  ·subst h3
   go_enter func90,ntmps90
   go_wp2
   go_ret
   exact⟨rfl,rfl⟩
  ·have e1:(k == 1)=false:=by simpa using h1
   have e3:(k == 3)=false:=by simpa using h3
   rw[e1,e3]
   go_enter func90,ntmps90
   go_wp2
   go_ret
   exact⟨by simp,rfl⟩
theorem zkt (k:Int) (w:World) : Calls prog 89 #[.int .i64 k] w fun e w'=>e = .returned (.bool (zfN k))/\w=w':=by
 unfold zfN
 by_cases h1:k=4
 ·subst h1
  go_enter func89,ntmps89
  go_wp2
  go_ret
  exact⟨rfl,rfl⟩
 ·have e1:(k == 4)=false:=by simpa using h1
  rw[e1]
  go_enter func89,ntmps89
  go_wp2
  go_ret
  exact⟨by simp,rfl⟩
def zdv (m:POp) : Bool:=decide (1<=m.kind) && decide (m.kind<=6) && (zar m.path.data.toList).isSome && (if zfN m.kind then (zar m.src.data.toList).isSome else m.src.toList == []) && (if zc9 m.kind then zbp m.val else m.val.toList == [])
theorem zfb (m:POp) (w:World) (h1:m.path.size<=1048576) (h2:m.src.size<=1048576) (h3:m.val.size<=1048576) :
  Calls prog 66 #[.agg #[.int .i64 m.kind,.string m.path,.string m.src,.string m.val]] w fun e w'=>e = .returned (.bool (zdv m))/\Below w.heap.size w w':=by
 have hA:=zag w (Obj.cells #[.int .i64 m.kind,.string m.path,.string m.src,.string m.val] 95)
 have kA:=yG w (Obj.cells #[.int .i64 m.kind,.string m.path,.string m.src,.string m.val] 95)
 have HP:Hid (∀ wx,Calls prog 81 #[.string m.path] wx fun e w'=>e = .returned (.bool (zar m.path.data.toList).isSome)/\Below wx.heap.size wx w'):=fun wx=>ze3 m.path wx h1
 have HQ:Hid (∀ wx,Calls prog 81 #[.string m.src] wx fun e w'=>e = .returned (.bool (zar m.src.data.toList).isSome)/\Below wx.heap.size wx w'):=fun wx=>ze3 m.src wx h2
 have HG:Hid (∀ wx,Calls prog 64 #[.string m.val] wx fun e w'=>e = .returned (.bool (zbp m.val))/\Below wx.heap.size wx w'):=fun wx=>zkr m.val wx h3
 have HF:Hid (∀ wx,Calls prog 89 #[.int .i64 m.kind] wx fun e w'=>e = .returned (.bool (zfN m.kind))/\wx=w'):=fun wx=>zkt m.kind wx
 have HV:Hid (∀ wx,Calls prog 90 #[.int .i64 m.kind] wx fun e w'=>e = .returned (.bool (zc9 m.kind))/\wx=w'):=fun wx=>zks m.kind wx
 by_cases k1:m.kind < 1
 ·have hf:zdv m=false:=by unfold zdv; rw[yk (by omega)]; simp
  rw[hf]
  go_enter func66,ntmps66
  go_wp2
  go_ret
  exact⟨rfl,hA⟩
 ·by_cases k6:6 < m.kind
  ·have hf:zdv m=false:=by unfold zdv; rw[yk (p:=m.kind<=6) (by omega)]; simp
   rw[hf]
   go_enter func66,ntmps66
   go_wp2
   go_ret
   exact⟨rfl,hA⟩
  ·have hk:zdv m=((zar m.path.data.toList).isSome && (if zfN m.kind then (zar m.src.data.toList).isSome else m.src.toList == []) && (if zc9 m.kind then zbp m.val else m.val.toList == [])):=by
    unfold zdv; rw[yj (by omega),yj (by omega)]; simp
   rw[hk]
   clear hk
   have zs0:(m.src.toList == [])=decide (m.src.toList=[]):=by by_cases h:m.src.toList=[] <;> simp[h]
   have zw0:(m.val.toList == [])=decide (m.val.toList=[]):=by by_cases h:m.val.toList=[] <;> simp[h]
   rw[zs0,zw0]
   clear zs0 zw0
   generalize (zar m.path.data.toList).isSome=zp at *
   generalize (zar m.src.data.toList).isSome=zq at *
   generalize zbp m.val=zg at *
   generalize zfN m.kind=zf at *
   generalize zc9 m.kind=zv at *
   have HCE:Hid (∀ wx,Below (w.alloc (Obj.cells #[.int .i64 m.kind,.string m.path,.string m.src,.string m.val] 95)).heap.size (w.alloc (Obj.cells #[.int .i64 m.kind,.string m.path,.string m.src,.string m.val] 95)) wx->wx.cell? ⟨w.heap.size,0,none⟩=some (.int .i64 m.kind)/\wx.cell? ⟨w.heap.size,1,none⟩=some (.string m.path)/\wx.cell? ⟨w.heap.size,2,none⟩=some (.string m.src)/\wx.cell? ⟨w.heap.size,3,none⟩=some (.string m.val)):=fun wx hb=>by
    have kx:=(hb.block w.heap.size (by simp)).trans kA
    exact⟨yF kx 0,yF kx 1,yF kx 2,yF kx 3⟩
   have HAB:=zab hA
   clear hA kA h1 h2 h3
   go_enter func66,ntmps66
   go_wp2_with fail
   refine (uh HP _).mono ?_
   rintro e w1 ⟨rfl,b1⟩
   obtain⟨c0,c1,c2,c3⟩:=uh HCE w1 b1
   have BB:=zab (zaa (uh HAB) b1)
   have BC:=zab b1
   clear b1
   by_cases hp:zp=true
   ·subst hp
    by_cases hf:zf=true
    ·subst hf
     go_wp2_with fail
     refine (uh HF _).mono ?_
     rintro e w2 ⟨rfl,rfl⟩
     go_wp2_with fail
     refine (uh HQ _).mono ?_
     rintro e w3 ⟨rfl,b3⟩
     obtain⟨d0,d1,d2,d3⟩:=uh HCE w3 (zaa (uh BC) b3)
     have BB:=zab (zaa (uh BB) b3)
     clear b3 BC c0 c1 c2 c3 HCE
     by_cases hq:zq=true
     ·subst hq
      go_wp2_with fail
      refine (uh HF _).mono ?_
      rintro e w4 ⟨rfl,rfl⟩
      have c0:=d0
      have c1:=d1
      have c2:=d2
      have c3:=d3
      clear d0 d1 d2 d3
      by_cases hv:zv=true
      ·subst hv
       go_wp2_with fail
       refine (uh HV _).mono ?_
       rintro e w8 ⟨rfl,rfl⟩
       go_wp2_with fail
       refine (uh HG _).mono ?_
       rintro e w9 ⟨rfl,b9⟩
       have HBF:=zab (zaa (uh BB) b9)
       clear b9 BB c0 c1 c2 c3 HP HQ HG HF HV
       go_wp2
       go_ret
       exact⟨by simp,uh HBF⟩
      ·have hv':zv=false:=by simpa using hv
       subst hv'
       go_wp2_with fail
       refine (uh HV _).mono ?_
       rintro e w8 ⟨rfl,rfl⟩
       have HBF:=BB
       clear BB HP HQ HG HF HV hv
       go_wp2
       go_ret
       exact⟨by cases m.val.toList <;> simp,uh HBF⟩
     ·have hq':zq=false:=by simpa using hq
      subst hq'
      clear hq
      go_wp2
      go_ret
      exact⟨by simp,uh BB⟩
    ·have hf':zf=false:=by simpa using hf
     subst hf'
     go_wp2_with fail
     refine (uh HF _).mono ?_
     rintro e w2 ⟨rfl,rfl⟩
     go_wp2_with fail
     refine (uh HF _).mono ?_
     rintro e w2 ⟨rfl,rfl⟩
     clear BC HCE hf
     by_cases hs:m.src.toList=[]
     ·by_cases hv:zv=true
      ·subst hv
       go_wp2_with fail
       refine (uh HV _).mono ?_
       rintro e w8 ⟨rfl,rfl⟩
       go_wp2_with fail
       refine (uh HG _).mono ?_
       rintro e w9 ⟨rfl,b9⟩
       have HBF:=zab (zaa (uh BB) b9)
       clear b9 BB c0 c1 c2 c3 HP HQ HG HF HV
       go_wp2
       go_ret
       exact⟨by simp,uh HBF⟩
      ·have hv':zv=false:=by simpa using hv
       subst hv'
       go_wp2_with fail
       refine (uh HV _).mono ?_
       rintro e w8 ⟨rfl,rfl⟩
       have HBF:=BB
       clear BB HP HQ HG HF HV hv
       go_wp2
       go_ret
       exact⟨by cases m.val.toList <;> simp,uh HBF⟩
     ·have hs1:m.src.toList.isEmpty=false:=by simpa using hs
      have hs2:(m.src.toList == [])=false:=by simpa using hs
      clear HP HQ HG HF HV
      go_wp2
      go_ret
      exact⟨by simp,uh BB⟩
   ·have hp':zp=false:=by simpa using hp
    subst hp'
    clear hp HP HQ HG HF HV HCE BC c0 c1 c2 c3
    go_wp2
    all_goals go_ret
    all_goals exact⟨by simp,uh BB⟩
def tl (ss:List ByteArray) : List (List UInt8):=ss.map fun s=>s.data.toList
theorem zgl (ss:List ByteArray) : (tl ss).length=ss.length:=by simp[tl]
theorem zsp {ss:List ByteArray} {j:Nat} (h:j < ss.length) : (tl ss)[j]'(by rw[zgl]; exact h)=ss[j].data.toList:=by simp[tl]
theorem zpR {w:World} {v:Value} {ss:List ByteArray} {bl:List Nat} (h:zmc w v ss bl) : OT w 0 v (tl ss):=by
 have h1:=(zfe.1 h).1
 have e:(tl ss).map zaW=ss.map Value.string:=by
  unfold tl
  rw[List.map_map]
  refine List.map_congr_left fun s _=>?_
  obtain⟨⟨l⟩⟩:=s
  rfl
 show w.ownsRow 0 _ 1 v (tl ss).length ((tl ss).map zaW)
 rw[e,zgl]
 exact h1
theorem zuX {l:List (List UInt8)} : zcf l=l↔UpS l:=
 ⟨fun h=>h ▸ zog l,fun h=>zux (zog l) h fun _=>zrM⟩
def zbw (ss:List ByteArray) : Bool:=decide (ss.length<=1000) && decide (zcf (tl ss)=tl ss) && ss.all fun s=>(zar s.data.toList).isSome
def zcl (n0:Int) (i:Nat) (m:Ver) : Bool:=m.no == n0+i && zbp m.doc && zbw m.touched
def zpS (n0:Int) : Nat->List Ver->Bool
 | _,[]=>true
 | i,m :: r=>zcl n0 i m && zpS n0 (i+1) r
def zaS:List Ver->Bool
 | []=>false
 | m :: r=>decide ((m :: r).length<=8) && decide (0<=m.no) && decide (m.no<=1000000) && zpS m.no 0 (m :: r)
theorem znp {n0:Int} : ∀ (l:List Ver) (b:Nat),zpS n0 b l=true↔∀ j (h:j < l.length),zcl n0 (b+j) l[j]=true
 | [],b=>by simp[zpS]
 | m :: r,b=>by
  rw[zpS,Bool.and_eq_true,znp r (b+1)]
  constructor
  ·rintro⟨h1,h2⟩ j hj
   cases j with
   | zero=>exact h1
   | succ j=>
    have:=h2 j (by simpa using hj)
    rw[show b+1+j=b+(j+1) by omega] at this
    exact this
  ·intro h
   refine⟨h 0 (by simp),fun j hj=>?_⟩
   have:=h (j+1) (by simpa using hj)
   rw[show b+(j+1)=b+1+j by omega] at this
   exact this
theorem zoA (va vb:Value) (xs ys:List (List UInt8)) (B C:Nat) (w:World) (ha:OT w B va xs) (hb:OT w C vb ys) (_hla:xs.length<=1000000) (hlb:ys.length<=1000000) :
  Calls prog 80 #[va,vb] w fun e w'=>e = .returned (.bool (decide (xs=ys)))/\Below w.heap.size w w':=by
 obtain⟨a,g0,c0,rfl,_,_⟩:=ha.shape
 obtain⟨b,g1,c1,rfl,_,_⟩:=hb.shape
 obtain⟨z,hz⟩ : ∃ z,decide (xs=ys)=z:=⟨_,rfl⟩
 rw[hz]
 have HZ:=zab hz
 have HA:=zab ha
 have HB:=zab hb
 clear hz ha hb
 by_cases hl:xs.length=ys.length
 ·rw[hl] at HA ⊢
  have HLL:=zab hl
  clear hl
  go_enter func80,ntmps80
  go_wp2
  go_loopw [5] (fun i wr=>∃ k:Nat,k<=ys.length/\i = .int .i64 k/\Below w.heap.size w wr/\∀ j (h:j < xs.length) (h':j < ys.length),j < k->xs[j]=ys[j]) (fun i _=>ys.length - (intOf i).toNat)
  case atStart=>exact⟨0,yt _,rfl,yH _ _,fun j _ _ h=>by omega⟩
  case round=>
   obtain⟨k,hk,rfl,hbw,heq⟩:=hrel
   by_cases hlt':k < ys.length
   ·have hlt:k < xs.length:=by have:=uh HLL; omega
    have hbd:=hbw.drew
    have rowa:=zaj (uh HA) hbd
    have rowb:=zaj (uh HB) hbd
    obtain⟨g,rfl⟩ : ∃ g,a=some ⟨g,0,none⟩:=by
     rcases rowa.2 with ⟨_,hn⟩ | ⟨g,cap,cur,hv,_⟩
     ·omega
     ·injection hv with hv _ _; exact⟨g,hv⟩
    obtain⟨g',rfl⟩ : ∃ g,b=some ⟨g,0,none⟩:=by
     rcases rowb.2 with ⟨_,hn⟩ | ⟨g,cap,cur,hv,_⟩
     ·omega
     ·injection hv with hv _ _; exact⟨g,hv⟩
    have rowa2:wr.drew.ownsRow B 9 1 (.slice (some ⟨g,0,none⟩) ys.length c0) ys.length (xs.map zaW):=by
     have:=rowa
     unfold OT at this
     rw[uh HLL] at this
     exact this
    have ca:wr.drew.cell? ⟨g,k,none⟩=some (.string (zac xs[k])):=by rw[rowa2.cellAt k (by simpa using hlt'),zr7 hlt]
    have cb:wr.drew.cell? ⟨g',k,none⟩=some (.string (zac ys[k])):=by rw[rowb.cellAt k (by simpa using hlt'),zr7 hlt']
    have HEQ:=zab heq
    have HBW:=zab hbd
    have HLT:=zab hlt'
    have HLX:=zab hlt
    clear rowa rowa2 rowb heq hbw hbd
    by_cases he:xs[k]=ys[k]
    ·have HE2:Hid (∀ j (h:j < xs.length) (h':j < ys.length),j < k+1->xs[j]=ys[j]):=fun j h h' hj=>by
      by_cases e:j=k
      ·subst e; exact he
      ·exact uh HEQ j h h' (by omega)
     have cb2:wr.drew.cell? ⟨g',k,none⟩=some (.string (zac xs[k])):=cb.trans (congrArg (fun l=>some (Value.string (zac l))) he.symm)
     clear cb
     generalize zac xs[k]=sk at *
     clear he
     go_wp2
     go_region_law (fail)
     all_goals (
      go_wp2
      go_roundw)
     all_goals first
      | exact⟨k+1,by have:=uh HLT; omega,by go_num,uh HBW,uh HE2⟩
      | (have:=uh HLT; simp[intOf]; omega)
    ·have hzf:z=false:=(uh HZ).symm.trans (yk fun e=>he (by subst e; rfl))
     subst hzf
     have hne:((zac xs[k]).toList == (zac ys[k]).toList)=false:=by
      rw[← Bool.not_eq_true,yC]
      intro e
      rw[ByteArray.toList_eq,ByteArray.toList_eq,zad,zad] at e
      exact he e
     generalize zac xs[k]=sk at *
     generalize zac ys[k]=sl at *
     clear he
     go_wp2
     go_region_law (fail)
     all_goals (
      go_wp2
      go_ret
      exact⟨rfl,uh HBW⟩)
   ·have hzt:z=true:=(uh HZ).symm.trans (yj (List.ext_getElem (uh HLL) fun j h1 h2=>heq j h1 h2 (by omega)))
    subst hzt
    clear heq
    go_wp2
    go_ret
    exact⟨rfl,hbw⟩
 ·have hne:((xs.length:Int) != (ys.length:Int))=true:=by rw[bne_iff_ne]; omega
  have hzf:z=false:=(uh HZ).symm.trans (yk fun e=>hl (by rw[e]))
  subst hzf
  have hneI:¬ (xs.length:Int)=(ys.length:Int):=by omega
  clear hl
  go_enter func80,ntmps80
  go_wp2
  go_ret
  exact⟨rfl,yH _ _⟩
theorem zoB (p:Value) (vs:List Ver) (bl:List Nat) (i:Nat) (w:World) (h:zbt zeS w p vs bl) (hi:i < vs.length) (hl:vs.length<=8) (n0:Int) (hn0:vs[0].no=n0) (hr0:0<=n0) (hr1:n0<=1000000) (hd:vs[i].doc.size<=1048576) (hp:∀ s∈vs[i].touched,s.size<=1048576) :
  Calls prog 45 #[.agg #[p],.int .i64 (i:Int)] w fun e w'=>e = .returned (.bool (zcl n0 i vs[i]))/\Below w.heap.size w w':=by
 have h1:=h
 obtain⟨xa,xc,rfl,hxf,hxa⟩:=h.form
 obtain⟨g,rfl⟩:=hxa (by omega)
 obtain⟨ws0,ib0,hE0,hc0,hx0⟩:=h.at (yx (show 0 < vs.length by omega))
 obtain⟨q0,rfl,hq0⟩:=hE0
 obtain⟨ws,ib,hE,hc,hx1⟩:=h.at (yx hi)
 obtain⟨q,rfl,hq⟩:=hE
 have hA:=zag w (.cells #[.slice (some ⟨g,0,none⟩) vs.length xc] 35)
 have hgl:g < w.heap.size:=yJ _ _ (hc 0 _ rfl).1
 obtain⟨ta,tc,rfl,ht1,ht2⟩:=hq.form
 have c0:(w.alloc (.cells #[.slice (some ⟨g,0,none⟩) vs.length xc] 35)).cell? ⟨g,i*3,none⟩=some (.int .i64 vs[i].no):=(hA.cell (p:=⟨g,i*3,none⟩) hgl).trans (hc 0 _ rfl).1
 have c1:(w.alloc (.cells #[.slice (some ⟨g,0,none⟩) vs.length xc] 35)).cell? ⟨g,i*3+1,none⟩=some (.string vs[i].doc):=(hA.cell (p:=⟨g,i*3+1,none⟩) hgl).trans (hc 1 _ rfl).1
 have c2:(w.alloc (.cells #[.slice (some ⟨g,0,none⟩) vs.length xc] 35)).cell? ⟨g,i*3+2,none⟩=some (.slice ta vs[i].touched.length tc):=(hA.cell (p:=⟨g,i*3+2,none⟩) hgl).trans (hc 2 _ rfl).1
 have hB:=zag (w.alloc (.cells #[.slice (some ⟨g,0,none⟩) vs.length xc] 35)) (.cells #[.int .i64 vs[i].no,.string vs[i].doc,.slice ta vs[i].touched.length tc] 57)
 have kA:=yG w (.cells #[.slice (some ⟨g,0,none⟩) vs.length xc] 35)
 have kB:=yG (w.alloc (.cells #[.slice (some ⟨g,0,none⟩) vs.length xc] 35)) (.cells #[.int .i64 vs[i].no,.string vs[i].doc,.slice ta vs[i].touched.length tc] 57)
 have zA:(w.alloc (.cells #[.slice (some ⟨g,0,none⟩) vs.length xc] 35)).heap.size=w.heap.size+1:=by simp
 rw[zA] at kB
 have bAB:=zaa hA hB
 have HF:Hid (∀ wx,Below (w.heap.size+1+1) ((w.alloc (.cells #[.slice (some ⟨g,0,none⟩) vs.length xc] 35)).alloc (.cells #[.int .i64 vs[i].no,.string vs[i].doc,.slice ta vs[i].touched.length tc] 57)) wx->wx.cell? ⟨w.heap.size,0,none⟩=some (.slice (some ⟨g,0,none⟩) vs.length xc)/\wx.cell? ⟨w.heap.size+1,0,none⟩=some (.int .i64 vs[i].no)/\wx.cell? ⟨w.heap.size+1,1,none⟩=some (.string vs[i].doc)/\wx.cell? ⟨w.heap.size+1,2,none⟩=some (.slice ta vs[i].touched.length tc)/\wx.cell? ⟨g,0,none⟩=some (.int .i64 vs[0].no)):=fun wx hx=>by
  have k1:=(hx.block w.heap.size (by omega)).trans ((hB.block w.heap.size (by rw[zA]; omega)).trans kA)
  have k2:=(hx.block (w.heap.size+1) (by omega)).trans kB
  exact⟨yF k1 0,yF k2 0,yF k2 1,yF k2 2,(hx.cell (p:=⟨g,0,none⟩) (by show g < _; omega)).trans ((bAB.cell (p:=⟨g,0,none⟩) hgl).trans (by simpa [zeS] using (hc0 0 _ rfl).1))⟩
 have HQ:=zab (hq.below bAB)
 have HBAB:=zab bAB
 have zAB:((w.alloc (.cells #[.slice (some ⟨g,0,none⟩) vs.length xc] 35)).alloc (.cells #[.int .i64 vs[i].no,.string vs[i].doc,.slice ta vs[i].touched.length tc] 57)).heap.size=w.heap.size+1+1:=by simp
 have HZAB:=zab zAB
 clear hxa h h1 hc hc0 hq hq0 hx0 hx1 hxf ht1 ht2 hA hB kA kB zA bAB zAB
 generalize vs[0].no=z0 at *
 generalize vs[i]=mv at *
 have hiI:(i:Int) < (vs.length:Int):=by omega
 have h0I:(0:Int) < (vs.length:Int):=by omega
 have hn8:(vs.length:Int)<=8:=by omega
 have h0N:0 < vs.length:=by omega
 clear hi hl
 generalize vs.length=nv at *
 obtain⟨no,doc,tch⟩:=mv
 have HN0:=zab hn0
 clear hn0
 by_cases hlen:1000 < tch.length
 ·have HZ:Hid (zcl n0 i ⟨no,doc,tch⟩=false):=by
   show _=_
   have ht:decide (tch.length<=1000)=false:=yk (by omega)
   simp[zcl,zbw,ht]
  have tlen:decide ((1000:Int) < (tch.length:Int))=true:=yj (by omega)
  clear hlen hd hp hr0 hr1
  go_enter func45,ntmps45
  go_wp2_with fail
  generalize ((w.alloc (.cells #[.slice (some ⟨g,0,none⟩) nv xc] 35)).alloc (.cells #[.int .i64 no,.string doc,.slice ta tch.length tc] 57))=w1 at *
  obtain⟨f0,f1,f2,f3,f4⟩:=uh HF w1 (yH _ _)
  clear c0 c1 c2
  go_quiet (fail)
  have HB1:=zab (zaa (uh HBAB) (zeb w1 nq))
  clear f0 f1 f2 f3 f4 HF HQ HBAB HZAB
  go_wp2
  go_ret
  exact⟨by rw[uh HZ]; rfl,uh HB1⟩
 ·have tlen:decide ((1000:Int) < (tch.length:Int))=false:=yk (by omega)
  by_cases hno:no=n0+i
  ·have hwr:IntKind.i64.wrap (z0+(i:Int))=z0+(i:Int):=by have:=uh HN0; unfold IntKind.wrap; simp[IntKind.bits,IntKind.signed]; omega
   have tno:(no != IntKind.i64.wrap (z0+(i:Int)))=false:=by rw[hwr,uh HN0]; simpa using hno
   clear hwr
   have HNO:=zab hno
   clear hno
   have HG:Hid (∀ wx,Calls prog 64 #[.string doc] wx fun e w'=>e = .returned (.bool (zbp doc))/\Below wx.heap.size wx w'):=fun wx=>zkr doc wx hd
   cases hgd:zbp doc with
   | false=>
    rw[hgd] at HG
    have HZF:Hid (zcl n0 i ⟨no,doc,tch⟩=false):=by show _=_; simp[zcl,hgd]
    go_enter func45,ntmps45
    go_wp2_with fail
    have hz1:w.heap.size+1+1=((w.alloc (.cells #[.slice (some ⟨g,0,none⟩) nv xc] 35)).alloc (.cells #[.int .i64 no,.string doc,.slice ta tch.length tc] 57)).heap.size:=by simp
    have HZ1:=zab hz1
    clear hz1
    generalize ((w.alloc (.cells #[.slice (some ⟨g,0,none⟩) nv xc] 35)).alloc (.cells #[.int .i64 no,.string doc,.slice ta tch.length tc] 57))=w1 at *
    obtain⟨f0,f1,f2,f3,f4⟩:=uh HF w1.drew ((yH _ _).drew)
    have hd1:Below w1.heap.size w1 w1.drew:=(yH _ _).drew
    clear c0 c1 c2
    first
     | (go_region_law (go_simp; refine (uh HG _).mono ?_; rintro e w2 ⟨rfl, b2⟩
                       have b12:=zaa hd1 b2
                       obtain⟨e0,e1,e2,e3,e4⟩:=uh HF w2 (by rw[uh HZ1]; exact b12)))
     | fail
    all_goals (
     have HBX:=zab (zaa (uh HBAB) b12)
     clear e0 e1 e2 e3 e4 b12 b2 f0 f1 f2 f3 f4 hd1 HF HQ HBAB HZAB HG
     go_wp2
     go_ret
     exact⟨by rw[uh HZF]; rfl,uh HBX⟩)
   | true=>
    rw[hgd] at HG
    have HO:Hid (∀ wx,Below (w.heap.size+1+1) ((w.alloc (.cells #[.slice (some ⟨g,0,none⟩) nv xc] 35)).alloc (.cells #[.int .i64 no,.string doc,.slice ta tch.length tc] 57)) wx->Calls prog 70 #[.slice ta tch.length tc] wx fun e w'=>∃ ra rc,e = .returned (.slice ra (zcf (tl tch)).length rc)/\OT w' wx.heap.size (.slice ra (zcf (tl tch)).length rc) (zcf (tl tch))/\Below wx.heap.size wx w'):=fun wx hx=>by
     have hqx:zmc wx _ tch ib:=(uh HQ).below (by rw[uh HZAB]; exact hx)
     refine (zr8 _ _ wx (zpR hqx) (by rw[zgl]; omega)).mono ?_
     rintro e w' ⟨r,rfl,o,b⟩
     obtain⟨ra,_,rc,rfl,_,_⟩:=o.shape
     exact⟨ra,rc,rfl,o,b⟩
    have HZW:Hid (∀ z:Bool,z=(decide (zcf (tl tch)=tl tch) && tch.all fun s=>(zar s.data.toList).isSome)->zcl n0 i ⟨no,doc,tch⟩=z):=fun z hz=>by
     have hb:(no == n0+(i:Int))=true:=by simpa using uh HNO
     have ht:decide (tch.length<=1000)=true:=yj (by omega)
     rw[hz]
     simp[zcl,zbw,hb,hgd,ht]
    go_enter func45,ntmps45
    go_wp2_with fail
    have hz1:w.heap.size+1+1=((w.alloc (.cells #[.slice (some ⟨g,0,none⟩) nv xc] 35)).alloc (.cells #[.int .i64 no,.string doc,.slice ta tch.length tc] 57)).heap.size:=by simp
    have HZ1:=zab hz1
    clear hz1
    generalize ((w.alloc (.cells #[.slice (some ⟨g,0,none⟩) nv xc] 35)).alloc (.cells #[.int .i64 no,.string doc,.slice ta tch.length tc] 57))=w1 at *
    obtain⟨f0,f1,f2,f3,f4⟩:=uh HF w1.drew ((yH _ _).drew)
    have hd1:Below w1.heap.size w1 w1.drew:=(yH _ _).drew
    clear c0 c1 c2
    go_region_law (first
     | (go_simp; refine (uh HS4).mono ?_; rintro e w4 ⟨rfl,b4⟩)
     | (go_simp; refine (uh HO3).mono ?_; rintro e w3 ⟨ra, rc, rfl, o3, b3⟩
        have b13:=zaa b12 b3
        obtain⟨p0,p1,p2,p3,p4⟩:=uh HF w3 (by rw[uh HZ1]; exact b13)
        have HS4:=zab (zoA _ _ _ _ _ 0 w3 o3 (zpR ((uh HQ).below b13)) (by have:=zlO _ (tl tch) rfl; rw[zgl] at this; omega) (by rw[zgl]; omega)))
     | (go_simp; refine (uh HG _).mono ?_; rintro e w2 ⟨rfl, b2⟩
        have b12:=zaa hd1 b2
        obtain⟨e0,e1,e2,e3,e4⟩:=uh HF w2 (by rw[uh HZ1]; exact b12)
        have HO3:=zab (uh HO w2 (by rw[uh HZ1]; exact b12))))
    all_goals (
     have b14:=zaa b13 b4
     have HB14:=zab (zaa (uh HBAB) b14)
     have HF4:Hid (∀ wx,Below w4.heap.size w4 wx->wx.cell? ⟨w.heap.size+1,2,none⟩=some (.slice ta tch.length tc)):=fun wx hx=>(uh HF wx (by rw[uh HZ1]; exact zaa b14 hx)).2.2.2.1
     have HQ4:=zab ((uh HQ).below b14)
     clear e0 e1 e2 e3 e4 p0 p1 p2 p3 p4 f0 f1 f2 f3 f4 b12 b13 b14 b2 b3 b4 hd1 o3 HF HQ HBAB HZAB HG HO HO3 HS4
     by_cases hup:zcf (tl tch)=tl tch
     ·have hdec:decide (zcf (tl tch)=tl tch)=true:=yj hup
      rw[hdec] at HZW
      rw[hdec]
      clear hup hdec
      have r3:=uh HF4 w4 (yH _ _)
      go_wp2
      go_loopw [6] (fun kk wr=>∃ k:Nat,k<=tch.length/\kk = .int .i64 k/\Below w4.heap.size w4 wr/\∀ j (h:j < tch.length),j < k->(zar tch[j].data.toList).isSome=true) (fun kk _=>tch.length - (intOf kk).toNat)
      case atStart=>exact⟨0,yt _,rfl,yH _ _,fun j _ h=>by omega⟩
      case round=>
       obtain⟨k,hk,rfl,hb,hall⟩:=hrel
       have r4:=uh HF4 wr hb
       have HALL:=zab hall
       have HBR:=zab hb
       by_cases hlt:k < tch.length
       ·have hltI:(k:Int) < (tch.length:Int):=by omega
        have row:=(zfe.1 ((uh HQ4).below hb)).1
        obtain⟨gt,rfl⟩ : ∃ gt,ta=some ⟨gt,0,none⟩:=by
         rcases row.2 with ⟨_,hn⟩ | ⟨gq,cap,cur,hv,_⟩
         ·omega
         ·injection hv with hv _ _; exact⟨gq,hv⟩
        have ck:wr.cell? ⟨gt,k,none⟩=some (.string tch[k]):=by
         rw[row.cellAt k (by simpa using hlt),List.getElem?_map,yx hlt]; rfl
        have HP:=zab (ze3 tch[k] wr (hp tch[k] (yr hlt)))
        cases hpk:(zar tch[k].data.toList).isSome with
        | true=>
         rw[hpk] at HP
         have HA2:Hid (∀ j (h:j < tch.length),j < k+1->(zar tch[j].data.toList).isSome=true):=fun j h hj=>by
          by_cases e:j=k
          ·subst e; exact hpk
          ·exact uh HALL j h (by omega)
         clear row hall hb hpk
         go_wp2_with fail
         refine (uh HP).mono ?_
         rintro e w5 ⟨rfl,b5⟩
         have HB5:=zab (zaa (uh HBR) b5)
         clear HP b5 ck r4
         go_wp2
         go_roundw
         case rel=>exact⟨k+1,by omega,by go_num,uh HB5,uh HA2⟩
         case measure=>simp[intOf]; omega
        | false=>
         rw[hpk] at HP
         have HZF:Hid (zcl n0 i ⟨no,doc,tch⟩=false):=uh HZW false (by
          symm
          rw[Bool.true_and,← Bool.not_eq_true,List.all_eq_true]
          intro h
          rw[h tch[k] (yr hlt)] at hpk
          cases hpk)
         clear row hall hb hpk
         go_wp2_with fail
         refine (uh HP).mono ?_
         rintro e w5 ⟨rfl,b5⟩
         have HB5:=zab (zaa (uh HB14) (zaa (uh HBR) b5))
         clear HP b5 ck r4
         go_wp2
         go_ret
         exact⟨by rw[uh HZF]; rfl,uh HB5⟩
       ·have HZT:Hid (zcl n0 i ⟨no,doc,tch⟩=true):=uh HZW true (by
         symm
         rw[Bool.true_and,List.all_eq_true]
         intro x hx
         obtain⟨j,hj,rfl⟩:=List.mem_iff_getElem.1 hx
         exact hall j hj (by omega))
        clear hall hb
        go_wp2
        go_ret
        exact⟨by rw[uh HZT]; rfl,zaa (uh HB14) (uh HBR)⟩
     ·have hdec:decide (zcf (tl tch)=tl tch)=false:=yk hup
      rw[hdec] at HZW
      rw[hdec]
      have HZF:=zab (uh HZW false rfl)
      clear hup hdec HZW
      go_wp2
      go_ret
      exact⟨by rw[uh HZF]; rfl,uh HB14⟩)
  ·have hwr:IntKind.i64.wrap (z0+(i:Int))=z0+(i:Int):=by have:=uh HN0; unfold IntKind.wrap; simp[IntKind.bits,IntKind.signed]; omega
   have tno:(no != IntKind.i64.wrap (z0+(i:Int)))=true:=by rw[hwr,uh HN0]; simpa using hno
   have HZF:Hid (zcl n0 i ⟨no,doc,tch⟩=false):=by
    show _=_
    have hb:(no == n0+(i:Int))=false:=by simpa using hno
    simp[zcl,hb]
   clear hwr hno hd hp
   go_enter func45,ntmps45
   go_wp2_with fail
   generalize ((w.alloc (.cells #[.slice (some ⟨g,0,none⟩) nv xc] 35)).alloc (.cells #[.int .i64 no,.string doc,.slice ta tch.length tc] 57))=w1 at *
   obtain⟨f0,f1,f2,f3,f4⟩:=uh HF w1 (yH _ _)
   clear c0 c1 c2
   go_quiet (fail)
   have HB1:=zab (zaa (uh HBAB) (zeb w1 nq))
   clear f0 f1 f2 f3 f4 HF HQ HBAB HZAB
   go_wp2
   go_ret
   exact⟨by rw[uh HZF]; rfl,uh HB1⟩
def zep (ms:List POp) : Int:=if 100 < ms.length then 100 else match ms.findIdx? (fun m=>!zdv m) with
 | some i=>(i:Int)
 | none=>-1
def zsq (ms:List POp) : Prop:=∀ m∈ms,m.path.size<=1048576/\m.src.size<=1048576/\m.val.size<=1048576
def zv9 (ms:List POp) : Prop:=zsq ms/\ms.length<=1048576
theorem zku {ms:List POp} (hl:ms.length<=100) {k:Nat} (hk:k < ms.length) (hb:zdv ms[k]=false) (hg:∀ j (h:j < ms.length),j < k->zdv ms[j]=true) : zep ms=(k:Int):=by
 unfold zep
 rw[yf (by omega)]
 have:ms.findIdx? (fun m=>!zdv m)=some k:=by
  rw[List.findIdx?_eq_some_iff_getElem]
  exact⟨hk,by simp[hb],fun j hj=>by simp[hg j (by omega) hj]⟩
 rw[this]
theorem zkv {ms:List POp} (hl:ms.length<=100) (hg:∀ j (h:j < ms.length),zdv ms[j]=true) : zep ms = -1:=by
 unfold zep
 rw[yf (by omega)]
 have:ms.findIdx? (fun m=>!zdv m)=none:=by
  rw[List.findIdx?_eq_none_iff]
  intro x hx
  obtain⟨j,hj,rfl⟩:=List.mem_iff_getElem.1 hx
  simp[hg j hj]
 rw[this]
theorem zjh (v:Value) (ms:List POp) (bl:List Nat) (w:World) (h:zbt opE w v ms bl) (hs:zsq ms) :
  Calls prog 49 #[v] w fun e w'=>e = .returned (.int .i64 (zep ms))/\Below w.heap.size w w':=by
 obtain⟨xa,xc,rfl,h1,hxa⟩:=h.form
 have H:=zab h
 have HXA:=zab hxa
 have HS:=zab hs
 have hmx:=h.len
 unfold maxLen at hmx
 clear h h1 hxa hs
 by_cases hl:ms.length<=100
 ·have hlI:¬ (100:Int) < (ms.length:Int):=by omega
  go_enter func49,ntmps49
  go_wp2
  go_loopw [3] (fun i wr=>∃ k:Nat,k<=ms.length/\i = .int .i64 k/\(∀ j (h:j < ms.length),j < k->zdv ms[j]=true)/\Below w.heap.size w wr) (fun i _=>ms.length - (intOf i).toNat)
  case atStart=>exact⟨0,yt _,rfl,fun j _ hj=>by omega,yH _ _⟩
  case round=>
   obtain⟨k,hk,rfl,hg,hb⟩:=hrel
   have HG:=zab hg
   have HB:=zab hb
   clear hg hb
   by_cases hlt:k < ms.length
   ·have hltI:(k:Int) < (ms.length:Int):=by omega
    obtain⟨g,rfl⟩:=uh HXA (by omega)
    obtain⟨vs,ib,hE,hc,_⟩:=((uh H).below (uh HB)).at (yx hlt)
    obtain⟨rfl,_⟩:=hE
    have c0:wr.cell? ⟨g,k*4,none⟩=some (.int .i64 ms[k].kind):=(hc 0 _ rfl).1
    have c1:wr.cell? ⟨g,k*4+1,none⟩=some (.string ms[k].path):=(hc 1 _ rfl).1
    have c2:wr.cell? ⟨g,k*4+2,none⟩=some (.string ms[k].src):=(hc 2 _ rfl).1
    have c3:wr.cell? ⟨g,k*4+3,none⟩=some (.string ms[k].val):=(hc 3 _ rfl).1
    have hin:=uh HS ms[k] (yr _)
    have HO:=zab (zfb ms[k] wr hin.1 hin.2.1 hin.2.2)
    obtain⟨z,hz⟩ : ∃ z,zdv ms[k]=z:=⟨_,rfl⟩
    rw[hz] at HO
    have HZ:=zab hz
    clear hc hin hz
    go_wp2_with fail
    refine (uh HO).mono ?_
    rintro e w1 ⟨rfl,b1⟩
    have HB1:=zab (zaa (uh HB) b1)
    clear HO b1 HB c0 c1 c2 c3
    cases z
    ·go_wp2
     go_ret
     exact⟨by rw[zku hl hlt (uh HZ) (uh HG)]; rfl,uh HB1⟩
    ·go_wp2
     go_roundw
     case rel=>
      refine⟨k+1,by omega,by go_num,fun j hj hjk=>?_,uh HB1⟩
      by_cases e:j=k
      ·subst e; exact uh HZ
      ·exact uh HG j hj (by omega)
     case measure=>simp[intOf]; omega
   ·have hltI:¬ (k:Int) < (ms.length:Int):=by omega
    go_wp2
    go_ret
    exact⟨by rw[zkv hl fun j hj=>uh HG j hj (by omega)]; rfl,uh HB⟩
 ·have hlI:(100:Int) < (ms.length:Int):=by omega
  have hb:zep ms=100:=by unfold zep; rw[yg (by omega)]
  rw[hb]
  clear hb
  go_enter func49,ntmps49
  go_wp2
  go_ret
  exact⟨rfl,yH _ _⟩
def zcZ (k:Int) : List UInt8:=if k=1 then [97,100,100] else if k=2 then [114,101,109,111,118,101] else if k=3 then [114,101,112,108,97,99,101] else if k=4 then [109,111,118,101] else if k=5 then [99,111,112,121] else [116,101,115,116]
theorem zpT (k:Int) (w:World) : Calls prog 88 #[.int .i64 k] w fun e w'=>e = .returned (.string (zac (zcZ k)))/\w=w':=by
 unfold zcZ
 by_cases h1:k=1
 ·subst h1
  go_enter func88,ntmps88
  go_wp2
  go_ret
  exact⟨rfl,rfl⟩
 ·by_cases h2:k=2
  ·subst h2
   go_enter func88,ntmps88
   go_wp2
   go_ret
   exact⟨rfl,rfl⟩
  ·by_cases h3:k=3
   ·subst h3
    go_enter func88,ntmps88
    go_wp2
    go_ret
    exact⟨rfl,rfl⟩
   ·by_cases h4:k=4
    ·subst h4
     go_enter func88,ntmps88
     go_wp2
     go_ret
     exact⟨rfl,rfl⟩
    ·by_cases h5:k=5
     ·subst h5
      go_enter func88,ntmps88
      go_wp2
      go_ret
      exact⟨rfl,rfl⟩
     ·rw[yf h1,yf h2,yf h3,yf h4,yf h5]
      have e1:(k == 1)=false:=by simpa using h1
      have e2:(k == 2)=false:=by simpa using h2
      have e3:(k == 3)=false:=by simpa using h3
      have e4:(k == 4)=false:=by simpa using h4
      have e5:(k == 5)=false:=by simpa using h5
      go_enter func88,ntmps88
      go_wp2
      go_ret
      exact⟨rfl,rfl⟩
def kOp:List UInt8:=[111,112]
def zcp:List UInt8:=[112,97,116,104]
def zcG:List UInt8:=[102,114,111,109]
def zb3:List UInt8:=[118,97,108,117,101]
def JL.ofL:List JV->JL
 | []=>.nil
 | v :: r=>.cons v (JL.ofL r)
theorem JL.toL_ofL:∀ l:List JV,(JL.ofL l).toL=l
 | []=>rfl
 | v :: r=>by rw[JL.ofL,JL.toL,JL.toL_ofL r]
theorem zl4:∀ l:JL,rdL l↔∀ v∈l.toL,rdV v
 | .nil=>by rw[rdL]; simp[JL.toL]
 | .cons v r=>by rw[rdL,zl4 r,JL.toL]; simp
theorem zl5:∀ l:JL,twL l=false↔∀ v∈l.toL,twV v=false
 | .nil=>by rw[twL]; simp[JL.toL]
 | .cons v r=>by rw[twL,Bool.or_eq_false_iff,zl5 r,JL.toL]; simp
theorem zji:∀ l:JL,zeG l=false↔∀ v∈l.toL,zbf v=false
 | .nil=>by rw[zeG]; simp[JL.toL]
 | .cons v r=>by rw[zeG,Bool.or_eq_false_iff,zji r,JL.toL]; simp
theorem zsr {v:JV} (h:rdV v) (hb:zbf v=false) (ht:twV v=false) : zbp (zac (ct v))=decide (zaY v<=100/\zaA v<=3000/\(ct v).length<=20000):=by
 unfold zbp
 rw[ztP h hb ht]
 by_cases h1:20000 < (ct v).length
 ·rw[yg h1]; simp; omega
 ·rw[yf h1]
  by_cases h2:100 < zaY v∨3000 < zaA v
  ·rw[yg h2]; simp; omega
  ·rw[yf h2]
   simp only[(zpx v).ct,beq_self_eq_true]
   symm
   rw[decide_eq_true_eq]; omega
end Go.Proofs.YtekpghcckdjnhaaGreatDoor
