import Derived.Test.YtocnekbedcnmgaaGreatDoorBa16
import Derived.Test.YtocnekbedcnmgaaGreatDoorBa9
import Derived.Test.YtocnekbedcnmgaaGreatDoorBa2
import Derived.Test.YtocnekbedcnmgaaGreatDoorBa6
import Derived.Test.YtocnekbedcnmgaaGreatDoorBa8
import Derived.Test.YtocnekbedcnmgaaGreatDoorBa5
import Derived.Laws.EntriesVeiled
set_option maxRecDepth 100000
set_option maxHeartbeats 8000000
namespace Go.Proofs.YtocnekbedcnmgaaGreatDoor
open Go.RowKit
def goodT (s:ByteArray) : Bool:=match readR s with
 | .inl _=>false
 | .inr v=>(strOf (ct v)).toList == s.toList
theorem goodT_iff {s:ByteArray} : goodT s=true↔∃ v,readR s = .inr v∧strOf (ct v)=s:=by
 unfold goodT
 cases h:readR s with
 | inl c=>simp
 | inr v=>
  simp only[beq_iff_eq]
  constructor
  ·intro e
   refine⟨v,rfl,?_⟩
   rw[ByteArray.toList_eq,ByteArray.toList_eq] at e
   have:(strOf (ct v)).data=s.data:=Array.toList_inj.1 e
   exact congrArg ByteArray.mk this
  ·rintro⟨v',e1,e2⟩
   injection e1 with e1
   subst e1
   rw[e2]
theorem readR_no {s:ByteArray} {c:Nat} (h:readR s = .inl c) : c≠0:=by
 unfold readR at h
 repeat' split at h
 all_goals first
  | (injection h with h; omega)
  | cases h
theorem good_walk (s:ByteArray) (w:World) (hs:s.size≤1048576) :
  Calls Tryz.prog 70 #[.string s] w fun e w'=>e = .returned (.bool (goodT s))∧Below w.heap.size w w':=by
 have HC:=hide (specCanon_walk s w hs)
 cases hr:readR s with
 | inl c=>
  have hc:=readR_no hr
  have hv:canonV s = .tuple #[.string ⟨#[]⟩,.int .i64 (c:Int)]:=by unfold canonV; rw[hr]
  have hg:goodT s=false:=by unfold goodT; rw[hr]
  rw[hv] at HC
  rw[hg]
  have hcI:((c:Int) == 0)=false:=by simp only[beq_eq_false_iff_ne,ne_eq]; omega
  clear hr hc hv hg
  go_enter Tryz.func70,Tryz.ntmps70
  go_wp2_with fail
  refine (uh HC).mono ?_
  rintro e w1 ⟨rfl,b1⟩
  clear HC
  go_wp2
  go_ret
  exact⟨rfl,b1⟩
 | inr v=>
  have hv:canonV s = .tuple #[.string (strOf (ct v)),.int .i64 0]:=by unfold canonV; rw[hr]
  have hg:goodT s=((strOf (ct v)).toList == s.toList):=by unfold goodT; rw[hr]
  rw[hv] at HC
  rw[hg]
  clear hr hv hg
  generalize strOf (ct v)=u at *
  go_enter Tryz.func70,Tryz.ntmps70
  go_wp2_with fail
  refine (uh HC).mono ?_
  rintro e w1 ⟨rfl,b1⟩
  clear HC
  go_wp2
  go_ret
  exact⟨rfl,b1⟩
def hasV (k:Int) : Bool:=k == 1 || k == 3 || k == 6
def hasF (k:Int) : Bool:=k == 4 || k == 5
theorem hasV_walk (k:Int) (w:World) : Calls Tryz.prog 80 #[.int .i64 k] w fun e w'=>e = .returned (.bool (hasV k))∧w=w':=by
 unfold hasV
 by_cases h1:k=1
 ·subst h1
  go_enter Tryz.func80,Tryz.ntmps80
  go_wp2
  go_ret
  exact⟨rfl,rfl⟩
 ·by_cases h3:k=3
  ·subst h3
   go_enter Tryz.func80,Tryz.ntmps80
   go_wp2
   go_ret
   exact⟨rfl,rfl⟩
  ·have e1:(k == 1)=false:=by simpa using h1
   have e3:(k == 3)=false:=by simpa using h3
   rw[e1,e3]
   go_enter Tryz.func80,Tryz.ntmps80
   go_wp2
   go_ret
   exact⟨by simp,rfl⟩
theorem hasF_walk (k:Int) (w:World) : Calls Tryz.prog 79 #[.int .i64 k] w fun e w'=>e = .returned (.bool (hasF k))∧w=w':=by
 unfold hasF
 by_cases h1:k=4
 ·subst h1
  go_enter Tryz.func79,Tryz.ntmps79
  go_wp2
  go_ret
  exact⟨rfl,rfl⟩
 ·have e1:(k == 4)=false:=by simpa using h1
  rw[e1]
  go_enter Tryz.func79,Tryz.ntmps79
  go_wp2
  go_ret
  exact⟨by simp,rfl⟩
def opOk (m:POp) : Bool:=decide (1≤m.kind) && decide (m.kind≤6) && (ptoks m.path.data.toList).isSome && (if hasF m.kind then (ptoks m.src.data.toList).isSome else m.src.toList == []) && (if hasV m.kind then goodT m.val else m.val.toList == [])
theorem opOk_walk (m:POp) (w:World) (h1:m.path.size≤1048576) (h2:m.src.size≤1048576) (h3:m.val.size≤1048576) :
  Calls Tryz.prog 82 #[.agg #[.int .i64 m.kind,.string m.path,.string m.src,.string m.val]] w fun e w'=>e = .returned (.bool (opOk m))∧Below w.heap.size w w':=by
 have hA:=alloc_b w (Obj.cells #[.int .i64 m.kind,.string m.path,.string m.src,.string m.val] 59)
 have kA:=heap_alloc_new w (Obj.cells #[.int .i64 m.kind,.string m.path,.string m.src,.string m.val] 59)
 have HP:Hid (∀ wx,Calls Tryz.prog 126 #[.string m.path] wx fun e w'=>e = .returned (.bool (ptoks m.path.data.toList).isSome)∧Below wx.heap.size wx w'):=fun wx=>isPtrS_walk m.path wx h1
 have HQ:Hid (∀ wx,Calls Tryz.prog 126 #[.string m.src] wx fun e w'=>e = .returned (.bool (ptoks m.src.data.toList).isSome)∧Below wx.heap.size wx w'):=fun wx=>isPtrS_walk m.src wx h2
 have HG:Hid (∀ wx,Calls Tryz.prog 70 #[.string m.val] wx fun e w'=>e = .returned (.bool (goodT m.val))∧Below wx.heap.size wx w'):=fun wx=>good_walk m.val wx h3
 have HF:Hid (∀ wx,Calls Tryz.prog 79 #[.int .i64 m.kind] wx fun e w'=>e = .returned (.bool (hasF m.kind))∧wx=w'):=fun wx=>hasF_walk m.kind wx
 have HV:Hid (∀ wx,Calls Tryz.prog 80 #[.int .i64 m.kind] wx fun e w'=>e = .returned (.bool (hasV m.kind))∧wx=w'):=fun wx=>hasV_walk m.kind wx
 by_cases k1:m.kind < 1
 ·have hf:opOk m=false:=by unfold opOk; rw[decide_eq_false (by omega)]; simp
  rw[hf]
  go_enter Tryz.func82,Tryz.ntmps82
  go_wp2
  go_ret
  exact⟨rfl,hA⟩
 ·by_cases k6:6 < m.kind
  ·have hf:opOk m=false:=by unfold opOk; rw[decide_eq_false (p:=m.kind≤6) (by omega)]; simp
   rw[hf]
   go_enter Tryz.func82,Tryz.ntmps82
   go_wp2
   go_ret
   exact⟨rfl,hA⟩
  ·have hk:opOk m=((ptoks m.path.data.toList).isSome && (if hasF m.kind then (ptoks m.src.data.toList).isSome else m.src.toList == []) && (if hasV m.kind then goodT m.val else m.val.toList == [])):=by
    unfold opOk; rw[decide_eq_true (by omega),decide_eq_true (by omega)]; simp
   rw[hk]
   clear hk
   have zs0:(m.src.toList == [])=decide (m.src.toList=[]):=by by_cases h:m.src.toList=[] <;> simp[h]
   have zw0:(m.val.toList == [])=decide (m.val.toList=[]):=by by_cases h:m.val.toList=[] <;> simp[h]
   rw[zs0,zw0]
   clear zs0 zw0
   generalize (ptoks m.path.data.toList).isSome=zp at *
   generalize (ptoks m.src.data.toList).isSome=zq at *
   generalize goodT m.val=zg at *
   generalize hasF m.kind=zf at *
   generalize hasV m.kind=zv at *
   have HCE:Hid (∀ wx,Below (w.alloc (Obj.cells #[.int .i64 m.kind,.string m.path,.string m.src,.string m.val] 59)).heap.size (w.alloc (Obj.cells #[.int .i64 m.kind,.string m.path,.string m.src,.string m.val] 59)) wx→wx.cell? ⟨w.heap.size,0,none⟩=some (.int .i64 m.kind)∧wx.cell? ⟨w.heap.size,1,none⟩=some (.string m.path)∧wx.cell? ⟨w.heap.size,2,none⟩=some (.string m.src)∧wx.cell? ⟨w.heap.size,3,none⟩=some (.string m.val)):=fun wx hb=>by
    have kx:=(hb.block w.heap.size (by simp)).trans kA
    exact⟨Lib.cell_of_heap kx 0,Lib.cell_of_heap kx 1,Lib.cell_of_heap kx 2,Lib.cell_of_heap kx 3⟩
   have HAB:=hide hA
   clear hA kA h1 h2 h3
   go_enter Tryz.func82,Tryz.ntmps82
   go_wp2_with fail
   refine (uh HP _).mono ?_
   rintro e w1 ⟨rfl,b1⟩
   obtain⟨c0,c1,c2,c3⟩:=uh HCE w1 b1
   have BB:=hide (below_next (uh HAB) b1)
   have BC:=hide b1
   clear b1
   by_cases hp:zp=true
   ·subst hp
    by_cases hf:zf=true
    ·subst hf
     go_wp2_with fail
     refine (uh HF _).mono ?_
     rintro e w2 ⟨rfl,rfl⟩
     go_wp2_with fail
     refine (uh HQ _).mono ?_
     rintro e w3 ⟨rfl,b3⟩
     obtain⟨d0,d1,d2,d3⟩:=uh HCE w3 (below_next (uh BC) b3)
     have BB:=hide (below_next (uh BB) b3)
     clear b3 BC c0 c1 c2 c3 HCE
     by_cases hq:zq=true
     ·subst hq
      go_wp2_with fail
      refine (uh HF _).mono ?_
      rintro e w4 ⟨rfl,rfl⟩
      have c0:=d0
      have c1:=d1
      have c2:=d2
      have c3:=d3
      clear d0 d1 d2 d3
      by_cases hv:zv=true
      ·subst hv
       go_wp2_with fail
       refine (uh HV _).mono ?_
       rintro e w8 ⟨rfl,rfl⟩
       go_wp2_with fail
       refine (uh HG _).mono ?_
       rintro e w9 ⟨rfl,b9⟩
       have HBF:=hide (below_next (uh BB) b9)
       clear b9 BB c0 c1 c2 c3 HP HQ HG HF HV
       go_wp2
       go_ret
       exact⟨by simp,uh HBF⟩
      ·have hv':zv=false:=by simpa using hv
       subst hv'
       go_wp2_with fail
       refine (uh HV _).mono ?_
       rintro e w8 ⟨rfl,rfl⟩
       have HBF:=BB
       clear BB HP HQ HG HF HV hv
       go_wp2
       go_ret
       exact⟨by cases m.val.toList <;> simp,uh HBF⟩
     ·have hq':zq=false:=by simpa using hq
      subst hq'
      clear hq
      go_wp2
      go_ret
      exact⟨by simp,uh BB⟩
    ·have hf':zf=false:=by simpa using hf
     subst hf'
     go_wp2_with fail
     refine (uh HF _).mono ?_
     rintro e w2 ⟨rfl,rfl⟩
     go_wp2_with fail
     refine (uh HF _).mono ?_
     rintro e w2 ⟨rfl,rfl⟩
     clear BC HCE hf
     by_cases hs:m.src.toList=[]
     ·by_cases hv:zv=true
      ·subst hv
       go_wp2_with fail
       refine (uh HV _).mono ?_
       rintro e w8 ⟨rfl,rfl⟩
       go_wp2_with fail
       refine (uh HG _).mono ?_
       rintro e w9 ⟨rfl,b9⟩
       have HBF:=hide (below_next (uh BB) b9)
       clear b9 BB c0 c1 c2 c3 HP HQ HG HF HV
       go_wp2
       go_ret
       exact⟨by simp,uh HBF⟩
      ·have hv':zv=false:=by simpa using hv
       subst hv'
       go_wp2_with fail
       refine (uh HV _).mono ?_
       rintro e w8 ⟨rfl,rfl⟩
       have HBF:=BB
       clear BB HP HQ HG HF HV hv
       go_wp2
       go_ret
       exact⟨by cases m.val.toList <;> simp,uh HBF⟩
     ·have hs1:m.src.toList.isEmpty=false:=by simpa using hs
      have hs2:(m.src.toList == [])=false:=by simpa using hs
      clear HP HQ HG HF HV
      go_wp2
      go_ret
      exact⟨by simp,uh BB⟩
   ·have hp':zp=false:=by simpa using hp
    subst hp'
    clear hp HP HQ HG HF HV HCE BC c0 c1 c2 c3
    go_wp2
    all_goals go_ret
    all_goals exact⟨by simp,uh BB⟩
def badI (ms:List POp) : Int:=if 100 < ms.length then 100 else match ms.findIdx? (fun m=>!opOk m) with
 | some i=>(i:Int)
 | none=>-1
def OpsIn (ms:List POp) : Prop:=∀ m∈ms,m.path.size≤1048576∧m.src.size≤1048576∧m.val.size≤1048576
theorem opsIn {ms:List POp} (h:szOps ms≤1048576) : OpsIn ms:=fun m hm=>by
 obtain⟨k,hk,rfl⟩:=List.mem_iff_getElem.1 hm
 have h1:=sum_take_snoc szOp ms k ms[k] (List.getElem?_eq_getElem hk)
 have h2:=sum_take_le (ms.map szOp) (k+1)
 rw[← List.map_take] at h2
 unfold szOps at h
 have h3:szOp ms[k]=ms[k].path.size+ms[k].src.size+ms[k].val.size:=rfl
 omega
theorem badI_some {ms:List POp} (hl:ms.length≤100) {k:Nat} (hk:k < ms.length) (hb:opOk ms[k]=false) (hg:∀ j (h:j < ms.length),j < k→opOk ms[j]=true) : badI ms=(k:Int):=by
 unfold badI
 rw[if_neg (by omega)]
 have:ms.findIdx? (fun m=>!opOk m)=some k:=by
  rw[List.findIdx?_eq_some_iff_getElem]
  exact⟨hk,by simp[hb],fun j hj=>by simp[hg j (by omega) hj]⟩
 rw[this]
theorem badI_none {ms:List POp} (hl:ms.length≤100) (hg:∀ j (h:j < ms.length),opOk ms[j]=true) : badI ms = -1:=by
 unfold badI
 rw[if_neg (by omega)]
 have:ms.findIdx? (fun m=>!opOk m)=none:=by
  rw[List.findIdx?_eq_none_iff]
  intro x hx
  obtain⟨j,hj,rfl⟩:=List.mem_iff_getElem.1 hx
  simp[hg j hj]
 rw[this]
theorem firstBad_walk (v:Value) (ms:List POp) (bl:List Nat) (w:World) (h:ORow opE w v ms bl) (hs:OpsIn ms) :
  Calls Tryz.prog 47 #[v] w fun e w'=>e = .returned (.int .i64 (badI ms))∧Below w.heap.size w w':=by
 obtain⟨xa,xc,rfl,h1,hxa⟩:=h.form
 have H:=hide h
 have HXA:=hide hxa
 have HS:=hide hs
 have hmx:=h.len
 unfold maxLen at hmx
 clear h h1 hxa hs
 by_cases hl:ms.length≤100
 ·have hlI:¬ (100:Int) < (ms.length:Int):=by omega
  go_enter Tryz.func47,Tryz.ntmps47
  go_wp2
  go_loopw [3] (fun i wr=>∃ k:Nat,k≤ms.length∧i = .int .i64 k∧(∀ j (h:j < ms.length),j < k→opOk ms[j]=true)∧Below w.heap.size w wr) (fun i _=>ms.length - (intOf i).toNat)
  case atStart=>exact⟨0,Nat.zero_le _,rfl,fun j _ hj=>by omega,Below.refl _ _⟩
  case round=>
   obtain⟨k,hk,rfl,hg,hb⟩:=hrel
   have HG:=hide hg
   have HB:=hide hb
   clear hg hb
   by_cases hlt:k < ms.length
   ·have hltI:(k:Int) < (ms.length:Int):=by omega
    obtain⟨g,rfl⟩:=uh HXA (by omega)
    obtain⟨vs,ib,hE,hc,_⟩:=((uh H).below (uh HB)).at (List.getElem?_eq_getElem hlt)
    obtain⟨rfl,_⟩:=hE
    have c0:wr.cell? ⟨g,k*4,none⟩=some (.int .i64 ms[k].kind):=(hc 0 _ rfl).1
    have c1:wr.cell? ⟨g,k*4+1,none⟩=some (.string ms[k].path):=(hc 1 _ rfl).1
    have c2:wr.cell? ⟨g,k*4+2,none⟩=some (.string ms[k].src):=(hc 2 _ rfl).1
    have c3:wr.cell? ⟨g,k*4+3,none⟩=some (.string ms[k].val):=(hc 3 _ rfl).1
    have hin:=uh HS ms[k] (List.getElem_mem _)
    have HO:=hide (opOk_walk ms[k] wr hin.1 hin.2.1 hin.2.2)
    obtain⟨z,hz⟩ : ∃ z,opOk ms[k]=z:=⟨_,rfl⟩
    rw[hz] at HO
    have HZ:=hide hz
    clear hc hin hz
    go_wp2_with fail
    refine (uh HO).mono ?_
    rintro e w1 ⟨rfl,b1⟩
    have HB1:=hide (below_next (uh HB) b1)
    clear HO b1 HB c0 c1 c2 c3
    cases z
    ·go_wp2
     go_ret
     exact⟨by rw[badI_some hl hlt (uh HZ) (uh HG)]; rfl,uh HB1⟩
    ·go_wp2
     go_roundw
     case rel=>
      refine⟨k+1,by omega,by go_num,fun j hj hjk=>?_,uh HB1⟩
      by_cases e:j=k
      ·subst e; exact uh HZ
      ·exact uh HG j hj (by omega)
     case measure=>simp[intOf]; omega
   ·have hltI:¬ (k:Int) < (ms.length:Int):=by omega
    go_wp2
    go_ret
    exact⟨by rw[badI_none hl fun j hj=>uh HG j hj (by omega)]; rfl,uh HB⟩
 ·have hlI:(100:Int) < (ms.length:Int):=by omega
  have hb:badI ms=100:=by unfold badI; rw[if_pos (by omega)]
  rw[hb]
  clear hb
  go_enter Tryz.func47,Tryz.ntmps47
  go_wp2
  go_ret
  exact⟨rfl,Below.refl _ _⟩
def wordT (k:Int) : List UInt8:=if k=1 then [97,100,100] else if k=2 then [114,101,109,111,118,101] else if k=3 then [114,101,112,108,97,99,101] else if k=4 then [109,111,118,101] else if k=5 then [99,111,112,121] else [116,101,115,116]
def JL.ofL:List JV→JL
 | []=>.nil
 | v :: r=>.cons v (JL.ofL r)
theorem JL.toL_ofL:∀ l:List JV,(JL.ofL l).toL=l
 | []=>rfl
 | v :: r=>by rw[JL.ofL,JL.toL,JL.toL_ofL r]
theorem rdL_iff:∀ l:JL,rdL l↔∀ v∈l.toL,rdV v
 | .nil=>by rw[rdL]; simp[JL.toL]
 | .cons v r=>by rw[rdL,rdL_iff r,JL.toL]; simp
theorem twL_iff:∀ l:JL,twL l=false↔∀ v∈l.toL,twV v=false
 | .nil=>by rw[twL]; simp[JL.toL]
 | .cons v r=>by rw[twL,Bool.or_eq_false_iff,twL_iff r,JL.toL]; simp
theorem bigL_iff:∀ l:JL,bigL l=false↔∀ v∈l.toL,bigV v=false
 | .nil=>by rw[bigL]; simp[JL.toL]
 | .cons v r=>by rw[bigL,Bool.or_eq_false_iff,bigL_iff r,JL.toL]; simp
def verbF (k:Int) : Value:=if k=1 then .func (Fn.func 171) #[] #[] else if k=2 then .func (Fn.func 172) #[] #[] else if k=3 then .func (Fn.func 173) #[] #[] else if k=4 then .func (Fn.func 174) #[] #[] else if k=5 then .func (Fn.func 175) #[] #[] else .func (Fn.func 176) #[] #[]
def shF (k:Int) : Bool:=k == 4
def shP (k:Int) : Bool:=k == 1 || k == 2 || k == 4 || k == 5
def wordB (k:Int) : ByteArray:=strOf (wordT k)
theorem verb_cells {w:World} {g:Nat} (hg:w.heap[g]?=some (.cells verbsA 141 (0,0))) {j:Nat} (hj:j < 6) {k:Int} (hk:k=(j:Int)+1) :
  w.cell? ⟨g,j*7,none⟩=some (.string (wordB k))∧w.cell? ⟨g,j*7+1,none⟩=some (.int .i64 k)∧w.cell? ⟨g,j*7+2,none⟩=some (.bool (hasF k))∧w.cell? ⟨g,j*7+3,none⟩=some (.bool (hasV k))∧w.cell? ⟨g,j*7+4,none⟩=some (.bool (shF k))∧w.cell? ⟨g,j*7+5,none⟩=some (.bool (shP k))∧w.cell? ⟨g,j*7+6,none⟩=some (verbF k):=by
 subst hk
 rcases (show j=0∨j=1∨j=2∨j=3∨j=4∨j=5 from by omega) with rfl | rfl | rfl | rfl | rfl | rfl
 all_goals exact⟨Lib.cell_of_heap hg _,Lib.cell_of_heap hg _,Lib.cell_of_heap hg _,Lib.cell_of_heap hg _,Lib.cell_of_heap hg _,Lib.cell_of_heap hg _,Lib.cell_of_heap hg _⟩
def opObj (m:POp) : Obj:=.cells #[.int .i64 m.kind,.string m.path,.string m.src,.string m.val] 59 (0,0)
theorem readOp1_walk (ob:Nat) (m:POp) (c0 c2 c3 c4 c5 c6:Value) (z:Int) (w:World) (h:w.heap[ob]?=some (opObj m)) :
  Calls Tryz.prog 157 #[.agg #[c0,.int .i64 z,c2,c3,c4,c5,c6],.pointer (some ⟨ob,0,none⟩)] w fun e w'=>e = .returned (.bool (z == m.kind))∧Below w.heap.size w w':=by
 have hlt:ob < w.heap.size:=(Array.getElem?_eq_some_iff.1 h).1
 have k:∀ o,(w.alloc o).cell? ⟨ob,0,none⟩=some (.int .i64 m.kind):=fun o=>Lib.cell_of_heap (((alloc_b w o).block ob hlt).trans h) 0
 clear h
 go_enter Tryz.func157,Tryz.ntmps157
 go_wp2
 go_ret
 exact⟨rfl,alloc_b w _⟩
def verbI (k:Int) : Int:=if 1≤k∧k≤6 then k - 1 else -1
theorem indexVerb_walk (g ob:Nat) (m:POp) (w:World) (hg:w.heap[g]?=some (.cells verbsA 141 (0,0))) (h:w.heap[ob]?=some (opObj m)) :
  Calls Tryz.prog 131 #[.slice (some ⟨g,0,none⟩) 6 6,.func (Fn.func 157) #[] #[.pointer (some ⟨ob,0,none⟩)]] w fun e w'=>e = .returned (.int .i64 (verbI m.kind))∧Below w.heap.size w w':=by
 have HG:=hide hg
 have HO:=hide h
 clear hg h
 go_enter Tryz.func131,Tryz.ntmps131
 go_wp2_with fail
 go_loopw [8] (fun i wr=>∃ j:Nat,j≤6∧i = .int .i64 (j:Int)∧Below w.heap.size w wr∧∀ n:Nat,n < j→¬ m.kind=(n:Int)+1) (fun i _=>6 - (intOf i).toNat)
 case atStart=>exact⟨0,by omega,rfl,Below.refl _ _,fun n hn=>by omega⟩
 case round=>
  obtain⟨j,hj,rfl,hb,hn⟩:=hrel
  by_cases hlt:j < 6
  ·have hg:=(hb.block g (Array.getElem?_eq_some_iff.1 (uh HG)).1).trans (uh HG)
   have ho:=(hb.block ob (Array.getElem?_eq_some_iff.1 (uh HO)).1).trans (uh HO)
   obtain⟨c0,c2,c3,c4,c5,c6,q0,q1,q2,q3,q4,q5,q6⟩:=verb_at hg hlt
   have HM:=hide (readOp1_walk ob m c0 c2 c3 c4 c5 c6 ((j:Int)+1) wr ho)
   have HN:=hide hn
   clear hg ho hn
   go_wp2_with fail
   refine (uh HM).mono ?_
   rintro e w1 ⟨rfl,b1⟩
   have HB1:=hide (below_next hb b1)
   clear HM b1 hb q0 q1 q2 q3 q4 q5 q6
   by_cases hk:(j:Int)+1=m.kind
   ·have hk1:(((j:Int)+1) == m.kind)=true:=by simpa using hk
    rw[hk1]
    have hv:verbI m.kind=(j:Int):=by unfold verbI; rw[if_pos (by omega)]; omega
    have HV:=hide hv
    clear hk hk1 hv
    go_wp2
    go_ret
    exact⟨by rw[uh HV]; rfl,uh HB1⟩
   ·have hk1:(((j:Int)+1) == m.kind)=false:=by simpa using hk
    rw[hk1]
    have HNE:Hid (∀ n:Nat,n < j+1→¬ m.kind=(n:Int)+1):=fun n hn e=>by
     by_cases hnj:n=j
     ·subst hnj; exact hk e.symm
     ·exact uh HN n (by omega) e
    clear hk hk1
    go_wp2
    go_roundw
    case rel=>exact⟨j+1,by omega,by go_num,uh HB1,uh HNE⟩
    case measure=>simp[intOf]; omega
  ·have hv:verbI m.kind = -1:=by
    unfold verbI
    rw[if_neg]
    intro ⟨h1,h2⟩
    exact hn (m.kind - 1).toNat (by omega) (by omega)
   have HV:=hide hv
   clear hv hn
   go_wp2
   go_ret
   exact⟨by rw[uh HV]; rfl,hb⟩
def verbV (k:Int) : Array Value:=#[.string (wordB k),.int .i64 k,.bool (hasF k),.bool (hasV k),.bool (shF k),.bool (shP k),verbF k]
def verb0:Array Value:=#[.string ⟨#[]⟩,.int .i64 0,.bool false,.bool false,.bool false,.bool false,.nilFunc]
theorem findVerb_yes (ob:Nat) (m:POp) (w:World) (h:w.heap[ob]?=some (opObj m)) (h1:1≤m.kind) (h2:m.kind≤6) :
  Calls Tryz.prog 88 #[.func (Fn.func 157) #[] #[.pointer (some ⟨ob,0,none⟩)]] w fun e w'=>e = .returned (.tuple #[.agg (verbV m.kind),.bool true])∧Below w.heap.size w w':=by
 have hlt:ob < w.heap.size:=(Array.getElem?_eq_some_iff.1 h).1
 obtain⟨j,hj,hk⟩ : ∃ j:Nat,j < 6∧m.kind=(j:Int)+1:=⟨(m.kind - 1).toNat,by omega,by omega⟩
 have hvi:verbI m.kind=(j:Int):=by unfold verbI; rw[if_pos ⟨h1,h2⟩]; omega
 have hvc:=fun (w:World) (g:Nat) (hg:w.heap[g]?=some (.cells verbsA 141 (0,0)))=>verb_cells hg hj hk
 have hvF:∃ fid,verbF m.kind = .func (Fn.func fid) #[] #[]:=by
  unfold verbF
  repeat' split
  all_goals exact⟨_,rfl⟩
 obtain⟨fid,hfid⟩:=hvF
 unfold verbV
 rw[hfid] at hvc ⊢
 generalize wordB m.kind=wb at *
 generalize hasF m.kind=hf at *
 generalize hasV m.kind=hv at *
 generalize shF m.kind=sf at *
 generalize shP m.kind=sp at *
 have HVC:=hide hvc
 have HVI:=hide hvi
 clear hvc hvi hfid
 have hA:=alloc_b w (.cells verb0 141)
 have kA:=heap_alloc_new w (.cells verb0 141)
 have zA:(w.alloc (.cells verb0 141)).heap.size=w.heap.size+1:=by simp
 have HO:=hide ((hA.block ob hlt).trans h)
 have HV:=hide (verbs_walk (w.alloc (.cells verb0 141)))
 have HA:=hide hA
 have HKA:=hide kA
 clear h hA kA
 go_enter Tryz.func88,Tryz.ntmps88
 go_wp2_with fail
 unfold verb0 at *
 generalize (w.alloc (.cells #[.string ⟨#[]⟩,.int .i64 0,.bool false,.bool false,.bool false,.bool false,.nilFunc] 141))=wA at *
 refine (uh HV).mono ?_
 rintro e w1 ⟨rfl,rfl⟩
 have hB:=alloc_b wA (.cells verbsA 141)
 have kB:=heap_alloc_new wA (.cells verbsA 141)
 have zB:(wA.alloc (.cells verbsA 141)).heap.size=wA.heap.size+1:=by simp
 have HX:=hide (indexVerb_walk wA.heap.size ob m (wA.alloc (.cells verbsA 141)) kB ((hB.block ob (by omega)).trans (uh HO)))
 have HKB:=hide kB
 have HAB:=hide (below_next (uh HA) hB)
 have HKC:=hide ((hB.block w.heap.size (by omega)).trans (uh HKA))
 have HZA:=hide zA
 have HZB:=hide zB
 clear HV hB kB HO HKA zA zB
 generalize (wA.alloc (.cells verbsA 141))=wB at *
 generalize wA.heap.size=G at *
 go_wp2_with fail
 refine (uh HX).mono ?_
 rintro e w2 ⟨rfl,b2⟩
 rw[uh HVI]
 have zA:=uh HZA
 have zB:=uh HZB
 have k2:=(b2.block G (by omega)).trans (uh HKB)
 obtain⟨q0,q1,q2,q3,q4,q5,q6⟩:=uh HVC _ _ k2
 have k3:=(b2.block w.heap.size (by omega)).trans (uh HKC)
 have c0:w2.cell? ⟨w.heap.size,0,none⟩=some (.string ⟨#[]⟩):=Lib.cell_of_heap k3 0
 have c1:w2.cell? ⟨w.heap.size,1,none⟩=some (.int .i64 0):=Lib.cell_of_heap k3 1
 have c2:w2.cell? ⟨w.heap.size,2,none⟩=some (.bool false):=Lib.cell_of_heap k3 2
 have c3:w2.cell? ⟨w.heap.size,3,none⟩=some (.bool false):=Lib.cell_of_heap k3 3
 have c4:w2.cell? ⟨w.heap.size,4,none⟩=some (.bool false):=Lib.cell_of_heap k3 4
 have c5:w2.cell? ⟨w.heap.size,5,none⟩=some (.bool false):=Lib.cell_of_heap k3 5
 have c6:w2.cell? ⟨w.heap.size,6,none⟩=some .nilFunc:=Lib.cell_of_heap k3 6
 have fz:=Lib.frozen_of_heap k3
 have HK3:=hide k3
 have HB2:=hide (below_next (uh HAB) b2)
 clear HX HAB HKB HKC k2 k3 b2 zA zB HVC HVI h1 h2
 clear hk
 have hjI:(j:Int) < 6:=by omega
 go_wp2
 refine bodyPost_ret (results_cell_tmp rfl _ _ w.heap.size 141 #[_,_,_,_,_,_,_] (0,0) _ _ rfl rfl (putN_full (uh HK3) [_,_,_,_,_,_,_] rfl) Tryz.underlying141 rfl (by kernel_rfl)) rfl ?_
 exact⟨rfl,putN_below (uh HB2) (Nat.le_refl _) [_,_,_,_,_,_,_] 0⟩
theorem findVerb_no (ob:Nat) (m:POp) (w:World) (h:w.heap[ob]?=some (opObj m)) (hno:¬ (1≤m.kind∧m.kind≤6)) :
  Calls Tryz.prog 88 #[.func (Fn.func 157) #[] #[.pointer (some ⟨ob,0,none⟩)]] w fun e w'=>e = .returned (.tuple #[.agg verb0,.bool false])∧Below w.heap.size w w':=by
 have hlt:ob < w.heap.size:=(Array.getElem?_eq_some_iff.1 h).1
 have hvi:verbI m.kind = -1:=by unfold verbI; rw[if_neg hno]
 have HVI:=hide hvi
 clear hvi hno
 have hA:=alloc_b w (.cells verb0 141)
 have kA:=heap_alloc_new w (.cells verb0 141)
 have zA:(w.alloc (.cells verb0 141)).heap.size=w.heap.size+1:=by simp
 have HO:=hide ((hA.block ob hlt).trans h)
 have HV:=hide (verbs_walk (w.alloc (.cells verb0 141)))
 have HA:=hide hA
 have HKA:=hide kA
 clear h hA kA
 unfold verb0 at *
 go_enter Tryz.func88,Tryz.ntmps88
 go_wp2_with fail
 generalize (w.alloc (.cells #[.string ⟨#[]⟩,.int .i64 0,.bool false,.bool false,.bool false,.bool false,.nilFunc] 141))=wA at *
 refine (uh HV).mono ?_
 rintro e w1 ⟨rfl,rfl⟩
 have hB:=alloc_b wA (.cells verbsA 141)
 have kB:=heap_alloc_new wA (.cells verbsA 141)
 have zB:(wA.alloc (.cells verbsA 141)).heap.size=wA.heap.size+1:=by simp
 have HX:=hide (indexVerb_walk wA.heap.size ob m (wA.alloc (.cells verbsA 141)) kB ((hB.block ob (by omega)).trans (uh HO)))
 have HAB:=hide (below_next (uh HA) hB)
 have HKC:=hide ((hB.block w.heap.size (by omega)).trans (uh HKA))
 have HZA:=hide zA
 have HZB:=hide zB
 clear HV hB kB HO HKA zA zB
 generalize (wA.alloc (.cells verbsA 141))=wB at *
 generalize wA.heap.size=G at *
 go_wp2_with fail
 refine (uh HX).mono ?_
 rintro e w2 ⟨rfl,b2⟩
 rw[uh HVI]
 have zA:=uh HZA
 have zB:=uh HZB
 have k3:=(b2.block w.heap.size (by omega)).trans (uh HKC)
 have c0:w2.cell? ⟨w.heap.size,0,none⟩=some (.string ⟨#[]⟩):=Lib.cell_of_heap k3 0
 have c1:w2.cell? ⟨w.heap.size,1,none⟩=some (.int .i64 0):=Lib.cell_of_heap k3 1
 have c2:w2.cell? ⟨w.heap.size,2,none⟩=some (.bool false):=Lib.cell_of_heap k3 2
 have c3:w2.cell? ⟨w.heap.size,3,none⟩=some (.bool false):=Lib.cell_of_heap k3 3
 have c4:w2.cell? ⟨w.heap.size,4,none⟩=some (.bool false):=Lib.cell_of_heap k3 4
 have c5:w2.cell? ⟨w.heap.size,5,none⟩=some (.bool false):=Lib.cell_of_heap k3 5
 have c6:w2.cell? ⟨w.heap.size,6,none⟩=some .nilFunc:=Lib.cell_of_heap k3 6
 have fz:=Lib.frozen_of_heap k3
 have HK3:=hide k3
 have HB2:=hide (below_next (uh HAB) b2)
 clear HX HAB HKC k3 b2 zA zB HVI
 go_wp2
 refine bodyPost_ret (results_cell_tmp rfl _ _ w.heap.size 141 #[_,_,_,_,_,_,_] (0,0) _ _ rfl rfl (putN_full (uh HK3) [_,_,_,_,_,_,_] rfl) Tryz.underlying141 rfl (by kernel_rfl)) rfl ?_
 exact⟨rfl,putN_below (uh HB2) (Nat.le_refl _) [_,_,_,_,_,_,_] 0⟩
end Go.Proofs.YtocnekbedcnmgaaGreatDoor
