import Derived.Test.YtkjcgkfejdogbaaGreatDoorBz11
import Derived.Test.YtkjcgkfejdogbaaGreatDoorBz7
import Derived.Test.YtkjcgkfejdogbaaGreatDoorBz3
import Derived.Test.YtkjcgkfejdogbaaGreatDoorBz5
import Derived.Laws.AppendOwn
set_option maxRecDepth 100000
set_option maxHeartbeats 8000000
namespace Go.Proofs.YtkjcgkfejdogbaaGreatDoor
open Go.RowKit
def sdec (n:Int) : List UInt8:=if n < 0 then 45 :: decT (-n).toNat else decT n.toNat
def quoB (c:UInt8) : List UInt8:=if c=39∨c=92 then [92,c] else [c]
def quo (s:ByteArray) : List UInt8:=39 :: (s.data.toList.flatMap quoB++[39])
def stTx (p:PStep) : List UInt8:=91 :: ((if p.byI=true then sdec p.idx else quo p.name)++[93])
def refT (o:PFOp) : List UInt8:=(if o.root=true then 36 else 64) :: o.steps.flatMap stTx
def signT (n:Int) : List UInt8:=if n=1 then [61,61] else if n=2 then [33,61] else if n=3 then [60] else if n=4 then [60,61] else if n=5 then [62] else [62,61]
def leafT (o:PFOp) : List UInt8:=
 if o.k=1 then sdec o.n else if o.k=2 then quo o.s else if o.k=3 then [116,114,117,101] else if o.k=4 then [102,97,108,115,101]
 else if o.k=5 then [110,117,108,108] else if o.k=7 then [108,101,110,103,116,104,40]++(refT o++[41]) else refT o
def jointT (k:Int) : List UInt8:=if k=10 then [38,38] else [124,124]
def CT.txt:CT→List UInt8
 | .mk o []=>leafT o
 | .mk _ [a]=>33 :: a.txt
 | .mk o (a :: b :: _)=>if o.k=9 then a.txt++(signT o.n++b.txt) else 40 :: (a.txt++(jointT o.k++(b.txt++[41])))
def CT.fl:CT→List PFOp
 | .mk o []=>[o]
 | .mk o [a]=>a.fl++[o]
 | .mk o (a :: b :: _)=>a.fl++(b.fl++[o])
inductive GC:CT→Prop
 | leaf {o:PFOp} : fopOk o=true→parts o.k=0→GC (.mk o [])
 | not {o:PFOp} {a:CT} : fopOk o=true→o.k=12→GC a→a.tru=true→GC (.mk o [a])
 | cmp {o:PFOp} {a b:CT} : fopOk o=true→o.k=9→GC a→GC b→a.tru=false→b.tru=false→GC (.mk o [a,b])
 | two {o:PFOp} {a b:CT} : fopOk o=true→o.k=10∨o.k=11→GC a→GC b→a.tru=true→b.tru=true→GC (.mk o [a,b])
theorem parts_zero {k:Int} (h:1≤k∧k≤12) (hp:parts k=0) : k≤8:=by
 unfold parts at hp
 split at hp
 ·cases hp
 ·split at hp
  ·cases hp
  ·omega
theorem GC.wf {c:CT} (h:GC c) : WF c.tru (c.fl.map (·.k)):=by
 induction h with
 | @leaf o hf hp=>
  have hk:=fop_k hf
  have h8:=parts_zero hk hp
  by_cases e:o.k=8
  ·have:(CT.mk o []).tru=true:=by unfold CT.tru CT.op; rw[e]; rfl
   rw[this]
   unfold CT.fl
   simp only[List.map_cons,List.map_nil,e]
   exact .ex
  ·have hv:isVal o.k=true:=by unfold isVal; simp; omega
   have:(CT.mk o []).tru=false:=(isVal_tru hv).1
   rw[this]
   unfold CT.fl
   exact .val hv
 | @not o a hf hk _ ht ih=>
  have:(CT.mk o [a]).tru=true:=by unfold CT.tru CT.op; rw[hk]; rfl
  rw[this]
  unfold CT.fl
  rw[ht] at ih
  simp only[List.map_append,List.map_cons,List.map_nil,hk]
  exact .not ih
 | @cmp o a b hf hk _ _ ha hb ia ib=>
  have:(CT.mk o [a,b]).tru=true:=by unfold CT.tru CT.op; rw[hk]; rfl
  rw[this]
  unfold CT.fl
  rw[ha] at ia
  rw[hb] at ib
  simp only[List.map_append,List.map_cons,List.map_nil,hk]
  rw[← List.append_assoc]
  exact .cmp ia ib
 | @two o a b hf hk _ _ ha hb ia ib=>
  have:(CT.mk o [a,b]).tru=true:=by unfold CT.tru CT.op; rcases hk with e | e <;> rw[e] <;> rfl
  rw[this]
  unfold CT.fl
  rw[ha] at ia
  rw[hb] at ib
  simp only[List.map_append,List.map_cons,List.map_nil]
  rw[← List.append_assoc]
  exact .two hk ia ib
def Stk (st:List CT) (l:List PFOp) : Prop:=(∀ c∈st,GC c)∧l=st.flatMap CT.fl
theorem Stk.step {st st':List CT} {l:List PFOp} {o:PFOp} (h:Stk st l) (hs:stepT st o=some st') : Stk st' (l++[o]):=by
 unfold stepT at hs
 split at hs
 ·cases hs
 ·rename_i hlen
  split at hs
  ·cases hs
  ·rename_i hf
   have hf:fopOk o=true:=by cases hq:fopOk o with | true=>rfl | false=>exact absurd hq hf
   have hk:=fop_k hf
   split at hs
   ·rename_i hall
    injection hs with hs
    subst hs
    obtain⟨hg,rfl⟩:=h
    rw[List.all_eq_true] at hall
    have hsplit:st.flatMap CT.fl=(st.take (st.length - parts o.k)).flatMap CT.fl++(st.drop (st.length - parts o.k)).flatMap CT.fl:=by rw[← List.flatMap_append,List.take_append_drop]
    have hgd:∀ c∈st.drop (st.length - parts o.k),GC c:=fun c hc=>hg c (List.mem_of_mem_drop hc)
    have hdl:(st.drop (st.length - parts o.k)).length=parts o.k:=by rw[List.length_drop]; omega
    generalize hD:st.drop (st.length - parts o.k)=D at *
    have main:GC (.mk o D)∧(CT.mk o D).fl=D.flatMap CT.fl++[o]:=by
     by_cases h0:parts o.k=0
     ·have:D=[]:=List.eq_nil_of_length_eq_zero (by omega)
      subst this
      exact⟨.leaf hf h0,by unfold CT.fl; rfl⟩
     ·have hk4:o.k=9∨o.k=10∨o.k=11∨o.k=12:=by
       unfold parts at h0
       split at h0
       ·rename_i h1; omega
       ·split at h0
        ·rename_i h2; omega
        ·exact absurd rfl h0
      rcases hk4 with e | e | e | e
      ·have h2:D.length=2:=by rw[hdl,e]; rfl
       obtain⟨a,b,rfl⟩ : ∃ a b,D=[a,b]:=by
        match D,h2 with
        | [a,b],_=>exact⟨a,b,rfl⟩
       have ha:=hall a (by simp)
       have hb:=hall b (by simp)
       rw[e] at ha hb
       exact⟨.cmp hf e (hgd a (by simp)) (hgd b (by simp)) (by simpa using ha) (by simpa using hb),by unfold CT.fl; simp⟩
      ·have h2:D.length=2:=by rw[hdl,e]; rfl
       obtain⟨a,b,rfl⟩ : ∃ a b,D=[a,b]:=by
        match D,h2 with
        | [a,b],_=>exact⟨a,b,rfl⟩
       have ha:=hall a (by simp)
       have hb:=hall b (by simp)
       rw[e] at ha hb
       exact⟨.two hf (.inl e) (hgd a (by simp)) (hgd b (by simp)) (by simpa using ha) (by simpa using hb),by unfold CT.fl; simp⟩
      ·have h2:D.length=2:=by rw[hdl,e]; rfl
       obtain⟨a,b,rfl⟩ : ∃ a b,D=[a,b]:=by
        match D,h2 with
        | [a,b],_=>exact⟨a,b,rfl⟩
       have ha:=hall a (by simp)
       have hb:=hall b (by simp)
       rw[e] at ha hb
       exact⟨.two hf (.inr e) (hgd a (by simp)) (hgd b (by simp)) (by simpa using ha) (by simpa using hb),by unfold CT.fl; simp⟩
      ·have h2:D.length=1:=by rw[hdl,e]; rfl
       obtain⟨a,rfl⟩ : ∃ a,D=[a]:=by
        match D,h2 with
        | [a],_=>exact⟨a,rfl⟩
       have ha:=hall a (by simp)
       rw[e] at ha
       exact⟨.not hf e (hgd a (by simp)) (by simpa using ha),by unfold CT.fl; simp⟩
    refine⟨fun c hc=>?_,?_⟩
    ·rcases List.mem_append.1 hc with hc | hc
     ·exact hg c (List.mem_of_mem_take hc)
     ·simp at hc
      subst hc
      exact main.1
    ·rw[List.flatMap_append,List.flatMap_singleton,main.2,hsplit,List.append_assoc]
   ·cases hs
theorem Stk.run:∀ (ops:List PFOp) (st st':List CT) (l:List PFOp),Stk st l→runT ops st=some st'→Stk st' (l++ops)
 | [],st,st',l,h,e=>by
  rw[runT] at e
  injection e with e
  subst e
  rw[List.append_nil]; exact h
 | o :: r,st,st',l,h,e=>by
  rw[runT] at e
  obtain⟨s1,h1,h2⟩:=Option.bind_eq_some_iff.1 e
  have:=Stk.run r s1 st' _ (h.step h1) h2
  rwa [List.append_assoc] at this
theorem condR_good {ops:List PFOp} {c:CT} (h:condR ops=some c) : GC c∧c.fl=ops∧c.tru=true:=by
 unfold condR at h
 split at h
 ·cases h
 ·cases hr:runT ops [] with
  | none=>rw[hr] at h; cases h
  | some st=>
   rw[hr] at h
   have hS:=Stk.run ops [] st [] ⟨fun c hc=>by simp at hc,rfl⟩ hr
   match st,h with
   | [d],h=>
    simp only at h
    split at h
    ·rename_i ht
     injection h with h
     subst h
     exact⟨hS.1 d (by simp),by have:=hS.2; simp at this; exact this.symm,ht⟩
    ·cases h
   | [],h=>cases h
   | _ :: _ :: _,h=>cases h
def cdT (ops:List PFOp) : List UInt8:=match condR ops with
 | some c=>c.txt
 | none=>[]
def sliceT (o:PSel) : List UInt8:=(if o.hasA=true then sdec o.a else [])++(58 :: ((if o.hasB=true then sdec o.b else [])++(if o.hasC=true then 58 :: sdec o.c else [])))
def selT (o:PSel) : List UInt8:=if o.k=1 then quo o.name else if o.k=2 then [42] else if o.k=3 then sdec o.a else if o.k=5 then 63 :: cdT o.cond else sliceT o
theorem sdec_neg {n:Int} (h:n < 0) : sdec n=45 :: decT (-n).toNat:=by unfold sdec; rw[if_pos h]
theorem sdec_pos {n:Int} (h:¬ n < 0) : sdec n=decT n.toNat:=by unfold sdec; rw[if_neg h]
theorem decT_ten:∀ (k n:Nat),n < 10 ^ (k+1)→(decT n).length≤k+1
 | 0,n,h=>by rw[decT_lo (by simpa using h)]; simp
 | k+1,n,h=>by
  by_cases h1:n < 10
  ·rw[decT_lo h1]; simp
  ·rw[decT_hi h1,List.length_append,decT_lo (n:=n % 10) (by omega)]
   have:=decT_ten k (n / 10) (by rw[Nat.pow_succ] at h; omega)
   simp
   omega
theorem sdec_len {n:Int} (h:rangeI n=true) : (sdec n).length≤11:=by
 unfold rangeI at h
 simp only[Bool.and_eq_true,decide_eq_true_eq] at h
 unfold sdec
 split
 ·have:=decT_ten 8 (-n).toNat (by omega)
  simp; omega
 ·have:=decT_ten 8 n.toNat (by omega)
  omega
theorem sdec_walk (n:Int) (w:World) (h:rangeI n=true) : Calls Tryz.prog 38 #[.int .i64 n] w fun e w'=>e = .returned (.string (strOf (sdec n)))∧Below w.heap.size w w':=by
 have hr:=h
 unfold rangeI at hr
 simp only[Bool.and_eq_true,decide_eq_true_eq] at hr
 by_cases hn:n < 0
 ·obtain⟨m,hm⟩ : ∃ m:Nat,n = -(m:Int):=⟨(-n).toNat,by omega⟩
  subst hm
  have HD:=hide (dec_walk m m w (Nat.le_refl _) (by omega))
  have HE:Hid (strOf (sdec (-(m:Int)))=⟨#[45]⟩++strOf (decT m)):=by
   show _=_
   rw[sdec_neg hn,show (-(-(m:Int))).toNat=m by omega,show (⟨#[45]⟩ : ByteArray)=strOf [45] from rfl,strOf_app]
   rfl
  have z:(strOf (decT m)).size≤1000:=by rw[strOf_size]; have:=decT_ten 8 m (by omega); omega
  have z3:(9223372036854775807 < 1+(strOf (decT m)).size)=False:=eq_false (by omega)
  generalize strOf (decT m)=u at *
  generalize strOf (sdec (-(m:Int)))=u2 at *
  clear h
  go_enter Tryz.func38,Tryz.ntmps38
  go_wp2_with fail
  refine (uh HD).mono ?_
  rintro e w1 ⟨rfl,b1⟩
  have HB:=hide b1
  clear HD b1
  go_wp2
  go_ret
  exact⟨by rw[uh HE]; rfl,uh HB⟩
 ·obtain⟨m,hm⟩ : ∃ m:Nat,n=(m:Int):=⟨n.toNat,by omega⟩
  subst hm
  have HD:=hide (dec_walk m m w (Nat.le_refl _) (by omega))
  have HE:Hid (strOf (sdec (m:Int))=strOf (decT m)):=by
   show _=_
   rw[sdec_pos hn,show ((m:Int)).toNat=m by omega]
  clear h
  go_enter Tryz.func38,Tryz.ntmps38
  go_wp2_with fail
  refine (uh HD).mono ?_
  rintro e w1 ⟨rfl,b1⟩
  have HB:=hide b1
  clear HD b1
  go_wp2
  go_ret
  exact⟨by rw[uh HE]; rfl,uh HB⟩
theorem quoB_yes {c:UInt8} (h:(c.toNat:Int)=39∨(c.toNat:Int)=92) : quoB c=[92,c]:=by
 unfold quoB
 rw[if_pos]
 rcases h with h | h
 ·left; exact UInt8.toNat_inj.1 (show c.toNat=39 by omega)
 ·right; exact UInt8.toNat_inj.1 (show c.toNat=92 by omega)
theorem quoB_no {c:UInt8} (h1:¬ (c.toNat:Int)=39) (h2:¬ (c.toNat:Int)=92) : quoB c=[c]:=by
 unfold quoB
 rw[if_neg]
 rintro (rfl | rfl)
 ·exact h1 rfl
 ·exact h2 rfl
theorem quoB_len (l:List UInt8) : (l.flatMap quoB).length≤2*l.length:=by
 induction l with
 | nil=>simp
 | cons c r ih=>
  rw[List.flatMap_cons,List.length_append,List.length_cons]
  have:(quoB c).length≤2:=by unfold quoB; split <;> simp
  omega
theorem quo_len (s:ByteArray) : (quo s).length≤2*s.size+2:=by
 unfold quo
 have:=quoB_len s.data.toList
 rw[data_len] at this
 rw[List.length_cons,List.length_append]
 simp only[List.length_cons,List.length_nil]
 omega
theorem quo_walk (s:ByteArray) (w:World) (hs:s.size≤1048576) : Calls Tryz.prog 37 #[.string s] w fun e w'=>e = .returned (.string (strOf (quo s)))∧Below w.heap.size w w':=by
 obtain⟨i0,hi,hz0,hz1,hz2⟩:=info_parts infoU8
 have HQ0:Hid (strOf (quo s)=⟨((39 :: (s.data.toList.take s.size).flatMap quoB)++[39]).toArray⟩):=by
  show _=_
  rw[bytes_all]
  rfl
 generalize strOf (quo s)=R at *
 go_enter Tryz.func37,Tryz.ntmps37
 go_wp2
 go_loopw [3,4] (fun v i wr=>∃ j:Nat,j≤s.size∧i = .int .i64 j∧Hid (wr.ownsRow w.heap.size 5 1 v (Lib.byteCells (39 :: (s.data.toList.take j).flatMap quoB)).length (Lib.byteCells (39 :: (s.data.toList.take j).flatMap quoB)))∧Below w.heap.size w wr) (fun _ i _=>s.size - (intOf i).toNat)
 case atStart=>exact⟨0,Nat.zero_le _,rfl,World.ownsRow_lit w #[.int .u8 39] 1 (Nat.le_refl _) (by unfold maxLen; omega) rfl,(Below.refl _ _).alloc (Nat.le_refl _) _⟩
 case round=>
  obtain⟨j,hj,rfl,hown,hb⟩:=hrel
  have hwsz:=hb.size
  have HB:=hide hb
  clear hb
  by_cases hjs:j < s.size
  ·have hjI:(j:Int) < (s.size:Int):=by omega
   have hq:(Lib.byteCells (39 :: (s.data.toList.take j).flatMap quoB)).length≤1+2*j:=by
    have:=quoB_len (s.data.toList.take j)
    have h5:(s.data.toList.take j).length=j:=by rw[List.length_take,data_len]; omega
    rw[Lib.byteCells_length,List.length_cons]; omega
   have HQ:Hid (39 :: (s.data.toList.take (j+1)).flatMap quoB=(39 :: (s.data.toList.take j).flatMap quoB)++quoB s[j]):=by
    show _=_
    rw[bytes_snoc s j hjs,List.flatMap_append]; simp
   generalize 39 :: (s.data.toList.take j).flatMap quoB=q at *
   by_cases hx:(s[j].toNat:Int)=39∨(s[j].toNat:Int)=92
   ·have HE:=hide (quoB_yes hx)
    rcases hx with hx | hx
    ·have t1:((s[j].toNat:Int) == 39)=true:=by simpa using hx
     clear hx
     go_wp2_with (at_builtin; refine wpList_append_own _ rfl (.tmp 22) (.tmp 23) 22 rfl w.heap.size 5 i0 (.int .u8 0) 1 1 Tryz.underlying22 hi hz0 hz1 hz2 rfl (by decide) _ _ _ rfl ((uh hown).alloc _) ⟨wr.heap.size,0,none⟩ 1 1 [.int .u8 92] rfl rfl (lit1 _ _ _) (one1 _ _) (by unfold maxLen; omega) (by omega) (by simp; omega) ?_)
     intro v1 w1 hown1 hgrow1 _
     have hb1:Below w.heap.size w w1:=((uh HB).alloc hwsz _).grown hgrow1 (by simp; omega) (fun k hk=>((uh hown).lt k hk).1)
     have HO1:=hide (own_step (m:=[92]) hown1 (by simp[Lib.byteCells]) rfl)
     have HB1:=hide hb1
     have hwsz1:=hb1.size
     have hq1:(Lib.byteCells (q++[92])).length≤2+2*j:=by rw[Lib.byteCells_append,List.length_append]; simp[Lib.byteCells] at hq ⊢; omega
     have HQ2:Hid (39 :: (s.data.toList.take (j+1)).flatMap quoB=(q++[92])++[s[j]]):=by show _=_; rw[uh HQ,uh HE]; simp
     clear hown1 hgrow1 hown HB hb1 HQ HE hq
     generalize q++[92]=q1 at *
     go_wp2_with (at_builtin; refine wpList_append_own _ rfl (.tmp 25) (.tmp 29) 22 rfl w.heap.size 5 i0 (.int .u8 0) 1 1 Tryz.underlying22 hi hz0 hz1 hz2 rfl (by decide) _ _ _ rfl ((uh HO1).alloc _) ⟨w1.heap.size,0,none⟩ 1 1 [.int .u8 s[j].toNat] rfl rfl (lit1 _ _ _) (one1 _ _) (by unfold maxLen; omega) (by omega) (by simp; omega) ?_)
     intro v2 w2 hown2 hgrow2 _
     have HB2:Hid (Below w.heap.size w w2):=((uh HB1).alloc hwsz1 _).grown hgrow2 (by simp; omega) (fun k hk=>((uh HO1).lt k hk).1)
     have HO2:=hide (own_step (m:=[s[j]]) hown2 (by simp[Lib.byteCells]) rfl)
     clear hown2 hgrow2 HO1 HB1 hq1
     go_wp2
     go_roundw
     case rel=>exact⟨j+1,by omega,by go_num,by show World.ownsRow _ _ _ _ _ _ _; rw[uh HQ2]; exact uh HO2,uh HB2⟩
     case measure=>simp[intOf]; omega
    ·have t1:((s[j].toNat:Int) == 39)=false:=by rw[hx]; rfl
     have t2:((s[j].toNat:Int) == 92)=true:=by simpa using hx
     clear hx
     go_wp2_with (at_builtin; refine wpList_append_own _ rfl (.tmp 22) (.tmp 23) 22 rfl w.heap.size 5 i0 (.int .u8 0) 1 1 Tryz.underlying22 hi hz0 hz1 hz2 rfl (by decide) _ _ _ rfl ((uh hown).alloc _) ⟨wr.heap.size,0,none⟩ 1 1 [.int .u8 92] rfl rfl (lit1 _ _ _) (one1 _ _) (by unfold maxLen; omega) (by omega) (by simp; omega) ?_)
     intro v1 w1 hown1 hgrow1 _
     have hb1:Below w.heap.size w w1:=((uh HB).alloc hwsz _).grown hgrow1 (by simp; omega) (fun k hk=>((uh hown).lt k hk).1)
     have HO1:=hide (own_step (m:=[92]) hown1 (by simp[Lib.byteCells]) rfl)
     have HB1:=hide hb1
     have hwsz1:=hb1.size
     have hq1:(Lib.byteCells (q++[92])).length≤2+2*j:=by rw[Lib.byteCells_append,List.length_append]; simp[Lib.byteCells] at hq ⊢; omega
     have HQ2:Hid (39 :: (s.data.toList.take (j+1)).flatMap quoB=(q++[92])++[s[j]]):=by show _=_; rw[uh HQ,uh HE]; simp
     clear hown1 hgrow1 hown HB hb1 HQ HE hq
     generalize q++[92]=q1 at *
     go_wp2_with (at_builtin; refine wpList_append_own _ rfl (.tmp 25) (.tmp 29) 22 rfl w.heap.size 5 i0 (.int .u8 0) 1 1 Tryz.underlying22 hi hz0 hz1 hz2 rfl (by decide) _ _ _ rfl ((uh HO1).alloc _) ⟨w1.heap.size,0,none⟩ 1 1 [.int .u8 s[j].toNat] rfl rfl (lit1 _ _ _) (one1 _ _) (by unfold maxLen; omega) (by omega) (by simp; omega) ?_)
     intro v2 w2 hown2 hgrow2 _
     have HB2:Hid (Below w.heap.size w w2):=((uh HB1).alloc hwsz1 _).grown hgrow2 (by simp; omega) (fun k hk=>((uh HO1).lt k hk).1)
     have HO2:=hide (own_step (m:=[s[j]]) hown2 (by simp[Lib.byteCells]) rfl)
     clear hown2 hgrow2 HO1 HB1 hq1
     go_wp2
     go_roundw
     case rel=>exact⟨j+1,by omega,by go_num,by show World.ownsRow _ _ _ _ _ _ _; rw[uh HQ2]; exact uh HO2,uh HB2⟩
     case measure=>simp[intOf]; omega
   ·have x1:¬ (s[j].toNat:Int)=39:=fun e=>hx (.inl e)
    have x2:¬ (s[j].toNat:Int)=92:=fun e=>hx (.inr e)
    have HE:=hide (quoB_no x1 x2)
    have t1:((s[j].toNat:Int) == 39)=false:=by simpa using x1
    have t2:((s[j].toNat:Int) == 92)=false:=by simpa using x2
    clear hx x1 x2
    go_wp2_with (at_builtin; refine wpList_append_own _ rfl (.tmp 25) (.tmp 29) 22 rfl w.heap.size 5 i0 (.int .u8 0) 1 1 Tryz.underlying22 hi hz0 hz1 hz2 rfl (by decide) _ _ _ rfl ((uh hown).alloc _) ⟨wr.heap.size,0,none⟩ 1 1 [.int .u8 s[j].toNat] rfl rfl (lit1 _ _ _) (one1 _ _) (by unfold maxLen; omega) (by omega) (by simp; omega) ?_)
    intro v2 w2 hown2 hgrow2 _
    have HB2:Hid (Below w.heap.size w w2):=((uh HB).alloc hwsz _).grown hgrow2 (by simp; omega) (fun k hk=>((uh hown).lt k hk).1)
    have HO2:=hide (own_step (m:=[s[j]]) hown2 (by simp[Lib.byteCells]) rfl)
    clear hown2 hgrow2 hown HB hq
    go_wp2
    go_roundw
    case rel=>exact⟨j+1,by omega,by go_num,by show World.ownsRow _ _ _ _ _ _ _; rw[uh HQ,uh HE]; exact uh HO2,uh HB2⟩
    case measure=>simp[intOf]; omega
  ·have hje:j=s.size:=by omega
   subst hje
   have hq:(Lib.byteCells (39 :: (s.data.toList.take s.size).flatMap quoB)).length≤1+2*s.size:=by
    have:=quoB_len (s.data.toList.take s.size)
    have h5:(s.data.toList.take s.size).length=s.size:=by rw[List.length_take,data_len]; omega
    rw[Lib.byteCells_length,List.length_cons]; omega
   generalize 39 :: (s.data.toList.take s.size).flatMap quoB=q at *
   go_wp2_with (at_builtin; refine wpList_append_own _ rfl (.tmp 31) (.tmp 32) 22 rfl w.heap.size 5 i0 (.int .u8 0) 1 1 Tryz.underlying22 hi hz0 hz1 hz2 rfl (by decide) _ _ _ rfl ((uh hown).alloc _) ⟨wr.heap.size,0,none⟩ 1 1 [.int .u8 39] rfl rfl (lit1 _ _ _) (one1 _ _) (by unfold maxLen; omega) (by omega) (by simp; omega) ?_)
   intro v2 w2 hown2 hgrow2 _
   have HB2:Hid (Below w.heap.size w w2):=((uh HB).alloc hwsz _).grown hgrow2 (by simp; omega) (fun k hk=>((uh hown).lt k hk).1)
   have hcv:=convert_own (own_step (m:=[39]) hown2 (by simp[Lib.byteCells]) rfl)
   clear hown2 hgrow2 hown HB hq
   generalize q++[39]=q2 at *
   go_wp2
   go_ret
   exact⟨by rw[uh HQ0]; rfl,uh HB2⟩
def strV (o:Option Bs) : Value:=.tuple #[.string (bsT (o.getD [])),.bool o.isSome]
theorem str_data (s:ByteArray) (h:0 < s.size) : sStr s.data.toList=if s[0]=39∧sE (dr s 1)=some [] then sD (dr s 1).dropLast else none:=by
 have e:=dr_at h
 rw[dr_zero] at e
 rw[e]; rfl
theorem dr_ne {s:ByteArray} {k:Nat} (h:k < s.size) : dr s k≠[]:=by rw[dr_at h]; simp
theorem dl_con {s:ByteArray} {k:Nat} (h:k+1 < s.size) : (dr s k).dropLast=s[k] :: (dr s (k+1)).dropLast:=by
 rw[dr_at (show k < s.size by omega)]
 rw[List.dropLast_cons_of_ne_nil (dr_ne h)]
theorem dl_last {s:ByteArray} {k:Nat} (h:k+1=s.size) : (dr s k).dropLast=[]:=by
 rw[dr_at (show k < s.size by omega),dr_end (s:=s) (i:=k+1) (by omega)]; rfl
def StrUp (s:ByteArray) (R:Option Bs) (k:Nat) (acc:Bs) : Prop:=sE (dr s k)=some []∧R=(sD (dr s k).dropLast).map (acc++·)
theorem StrUp.low {s:ByteArray} {R:Option Bs} {k:Nat} {acc:Bs} (h:StrUp s R k acc) (hk:k+1 < s.size) (hc:s[k].toNat < 32) : R=none:=by
 rw[h.2,dl_con hk,sD_con,if_pos hc]; rfl
theorem StrUp.esc {s:ByteArray} {R:Option Bs} {k:Nat} {acc:Bs} (h:StrUp s R k acc) (hk:k+1 < s.size) (hc:s[k]=92) : k+2 < s.size:=by
 have h1:=h.1
 rw[dr_at (show k < s.size by omega),sE_con,if_pos hc,dr_at hk] at h1
 simp only at h1
 rcases Nat.lt_or_ge (k+2) s.size with h2 | h2
 ·exact h2
 ·rw[dr_end (s:=s) (i:=k+1+1) (by omega)] at h1; cases h1
theorem StrUp.bad {s:ByteArray} {R:Option Bs} {k:Nat} {acc:Bs} (h:StrUp s R k acc) (hk:k+2 < s.size) (hc:s[k]=92) (h1:¬ s[k+1]=39) (h2:¬ s[k+1]=92) : R=none:=by
 rw[h.2,dl_con (by omega),sD_con,if_neg (by rw[hc]; decide),if_pos hc,dl_con hk]
 simp only
 rw[if_neg (by rintro (h | h); exact h1 h; exact h2 h)]; rfl
theorem StrUp.two {s:ByteArray} {R:Option Bs} {k:Nat} {acc:Bs} (h:StrUp s R k acc) (hk:k+2 < s.size) (hc:s[k]=92) (hd:s[k+1]=39∨s[k+1]=92) : StrUp s R (k+2) (acc++[s[k+1]]):=by
 constructor
 ·have h1:=h.1
  rw[dr_at (show k < s.size by omega),sE_con,if_pos hc,dr_at (show k+1 < s.size by omega)] at h1
  exact h1
 ·rw[h.2,dl_con (by omega),sD_con,if_neg (by rw[hc]; decide),if_pos hc,dl_con hk]
  simp only
  rw[if_pos hd]
  cases sD (dr s (k+1+1)).dropLast <;> simp
theorem StrUp.one {s:ByteArray} {R:Option Bs} {k:Nat} {acc:Bs} (h:StrUp s R k acc) (hk:k+1 < s.size) (hc:¬ s[k]=92) (hl:¬ s[k].toNat < 32) : StrUp s R (k+1) (acc++[s[k]]):=by
 constructor
 ·have h1:=h.1
  rw[dr_at (show k < s.size by omega),sE_con,if_neg hc] at h1
  split at h1
  ·injection h1 with h1; exact absurd h1 (dr_ne hk)
  ·exact h1
 ·rw[h.2,dl_con hk,sD_con,if_neg hl,if_neg hc]
  cases sD (dr s (k+1)).dropLast <;> simp
theorem StrUp.last {s:ByteArray} {R:Option Bs} {k:Nat} {acc:Bs} (h:StrUp s R k acc) (hk:k+1=s.size) : R=some acc:=by
 rw[h.2,dl_last hk]; simp[sD]
theorem str_walk (s:ByteArray) (w:World) (hs:s.size≤1048576) : Calls Tryz.prog 66 #[.string s] w fun e w'=>e = .returned (strV (sStr s.data.toList))∧Below w.heap.size w w':=by
 obtain⟨i0,hi,hz0,hz1,hz2⟩:=info_parts infoU8
 by_cases h2:s.size < 2
 ·have HR:Hid (sStr s.data.toList=none):=by
   show _=_
   by_cases h0:0 < s.size
   ·rw[str_data s h0,dr_end (s:=s) (i:=1) (by omega),if_neg]
    rintro⟨-,h⟩; cases h
   ·rw[show s.data.toList=[] from dr_end (s:=s) (i:=0) (by omega)]; rfl
  have t2:(s.size:Int) < 2:=by omega
  go_enter Tryz.func66,Tryz.ntmps66
  go_wp2
  go_ret2
  exact⟨by rw[uh HR]; rfl,Below.refl _ _⟩
 ·have t2:¬ (s.size:Int) < 2:=by omega
  have h0:0 < s.size:=by omega
  have h0I:(0:Int) < (s.size:Int):=by omega
  have hS:=str_data s h0
  by_cases h39:s[0]=39
  ·have b39:((s[0].toNat:Nat) : Int)=39:=u8_is h39
   have HE:=hide (strEnd_walk s 0 h0 w hs)
   by_cases hE:sE (dr s 1)=some []
   ·have hp:plcO s (sE (dr s (0+1)))=(s.size:Int):=by rw[show (0:Nat)+1=1 from rfl,hE]; rfl
    rw[hp] at HE
    rw[if_pos ⟨h39,hE⟩] at hS
    have HU:Hid (StrUp s (sStr s.data.toList) 1 []):=⟨hE,by rw[hS]; cases sD (dr s 1).dropLast <;> simp⟩
    clear hS hE hp h39
    generalize sStr s.data.toList=R at *
    go_enter Tryz.func66,Tryz.ntmps66
    go_wp2_with fail
    refine (uh HE).mono ?_
    rintro e w2 ⟨rfl,rfl⟩
    clear HE
    go_wp2
    go_loopw [4,5] (fun v i wr=>∃ (k:Nat) (acc:Bs),k+1≤s.size∧acc.length≤k∧i = .int .i64 k∧Hid (StrUp s R k acc)∧Hid (wr.ownsRow w.heap.size 5 1 v (Lib.byteCells acc).length (Lib.byteCells acc))∧Below w.heap.size w wr) (fun _ i _=>s.size - (intOf i).toNat)
    case atStart=>exact⟨1,[],by omega,by simp,rfl,HU,World.ownsRow_lit w #[] 0 (Nat.le_refl _) (by unfold maxLen; omega) rfl,(Below.refl _ _).alloc (Nat.le_refl _) _⟩
    case round=>
     obtain⟨k,acc,hk,ha,rfl,hu,hown,hb⟩:=hrel
     clear HU
     have hwsz:=hb.size
     have HB:=hide hb
     have hq:(Lib.byteCells acc).length≤k:=by rw[Lib.byteCells_length]; exact ha
     clear hb
     by_cases hlt:k+1 < s.size
     ·have hltI:(k:Int) < (s.size:Int) - 1:=by omega
      have hlt0:k < s.size:=by omega
      have hlt0I:(k:Int) < (s.size:Int):=by omega
      by_cases hlow:s[k].toNat < 32
      ·have HN:=hide ((uh hu).low hlt hlow)
       have tl:((s[k].toNat:Nat) : Int) < 32:=by omega
       clear hu hown hlow
       go_wp2
       go_ret2
       exact⟨by rw[uh HN]; rfl,uh HB⟩
      ·have tl:¬ ((s[k].toNat:Nat) : Int) < 32:=by omega
       by_cases h92:s[k]=92
       ·have b92:(((s[k].toNat:Nat) : Int) == 92)=true:=by rw[beq_iff_eq]; exact u8_is h92
        have hk2:=(uh hu).esc hlt h92
        have hk2I:(k:Int)+1 < (s.size:Int):=by omega
        by_cases hd:s[k+1]=39∨s[k+1]=92
        ·have HU2:=hide ((uh hu).two hk2 h92 hd)
         have td:(((s[k+1].toNat:Nat) : Int) != 39)=false∨(((s[k+1].toNat:Nat) : Int) != 39)=true∧(((s[k+1].toNat:Nat) : Int) != 92)=false:=by
          rcases hd with hd | hd
          ·left; rw[hd]; rfl
          ·right; rw[hd]; exact⟨rfl,rfl⟩
         clear hd h92 hlow hu
         rcases td with t3 | ⟨t3,t4⟩
         all_goals
          go_wp2_with (at_builtin; refine wpList_append_own _ rfl (.tmp 49) (.tmp 53) 22 rfl w.heap.size 5 i0 (.int .u8 0) 1 1 Tryz.underlying22 hi hz0 hz1 hz2 rfl (by decide) _ _ _ rfl ((uh hown).alloc _) ⟨wr.heap.size,0,none⟩ 1 1 [.int .u8 s[k+1].toNat] rfl rfl (lit1 _ _ _) (one1 _ _) (by unfold maxLen; omega) (by omega) (by simp; omega) ?_)
          intro v2 w2 hown2 hgrow2 _
          have HB2:Hid (Below w.heap.size w w2):=((uh HB).alloc hwsz _).grown hgrow2 (by simp; omega) (fun k hk=>((uh hown).lt k hk).1)
          have HO2:=hide (own_step (m:=[s[k+1]]) hown2 (by simp[Lib.byteCells]) rfl)
          clear hown2 hgrow2 hown HB hq
          go_wp2
          go_roundw
          case rel=>exact⟨k+2,_,by omega,by simp; omega,by go_num,HU2,HO2,uh HB2⟩
          case measure=>simp[intOf]; omega
        ·have e1:¬ s[k+1]=39:=fun e=>hd (.inl e)
         have e2:¬ s[k+1]=92:=fun e=>hd (.inr e)
         have HN:=hide ((uh hu).bad hk2 h92 e1 e2)
         have t3:(((s[k+1].toNat:Nat) : Int) != 39)=true:=bne_iff_ne.2 (u8_not e1)
         have t4:(((s[k+1].toNat:Nat) : Int) != 92)=true:=bne_iff_ne.2 (u8_not e2)
         clear hu hown hlow hd e1 e2 h92
         go_wp2
         go_ret2
         exact⟨by rw[uh HN]; rfl,uh HB⟩
       ·have b92:(((s[k].toNat:Nat) : Int) == 92)=false:=beq_eq_false_iff_ne.2 (u8_not h92)
        have HU2:=hide ((uh hu).one hlt h92 hlow)
        clear h92 hlow hu
        go_wp2_with (at_builtin; refine wpList_append_own _ rfl (.tmp 49) (.tmp 53) 22 rfl w.heap.size 5 i0 (.int .u8 0) 1 1 Tryz.underlying22 hi hz0 hz1 hz2 rfl (by decide) _ _ _ rfl ((uh hown).alloc _) ⟨wr.heap.size,0,none⟩ 1 1 [.int .u8 s[k].toNat] rfl rfl (lit1 _ _ _) (one1 _ _) (by unfold maxLen; omega) (by omega) (by simp; omega) ?_)
        intro v2 w2 hown2 hgrow2 _
        have HB2:Hid (Below w.heap.size w w2):=((uh HB).alloc hwsz _).grown hgrow2 (by simp; omega) (fun k hk=>((uh hown).lt k hk).1)
        have HO2:=hide (own_step (m:=[s[k]]) hown2 (by simp[Lib.byteCells]) rfl)
        clear hown2 hgrow2 hown HB hq
        go_wp2
        go_roundw
        case rel=>exact⟨k+1,_,by omega,by simp; omega,by go_num,HU2,HO2,uh HB2⟩
        case measure=>simp[intOf]; omega
     ·have hltI:¬ (k:Int) < (s.size:Int) - 1:=by omega
      have HN:=hide ((uh hu).last (by omega))
      have hcv:=convert_own (uh hown)
      clear hu hown hq
      go_wp2
      go_ret2
      exact⟨by rw[uh HN]; rfl,uh HB⟩
   ·have HR:Hid (sStr s.data.toList=none):=by show _=_; rw[hS,if_neg (fun h=>hE h.2)]
    have hp:∃ z:Int,plcO s (sE (dr s (0+1)))=z∧¬ z=(s.size:Int):=by
     refine⟨_,rfl,?_⟩
     rw[show (0:Nat)+1=1 from rfl]
     cases hx:sE (dr s 1) with
     | none=>show ¬ (-1:Int)=_; omega
     | some t=>
      show ¬ ((s.size - t.length:Nat) : Int)=_
      intro e
      have:t.length=0∨s.size=0:=by omega
      rcases this with h | h
      ·rw[List.length_eq_zero_iff.1 h] at hx; exact hE hx
      ·omega
    obtain⟨z,hz,hzs⟩:=hp
    rw[hz] at HE
    clear hS hE hz h39
    go_enter Tryz.func66,Tryz.ntmps66
    go_wp2_with fail
    refine (uh HE).mono ?_
    rintro e w2 ⟨rfl,rfl⟩
    clear HE
    go_wp2
    go_ret2
    exact⟨by rw[uh HR]; rfl,Below.refl _ _⟩
  ·have b39:¬ ((s[0].toNat:Nat) : Int)=39:=u8_not h39
   have HR:Hid (sStr s.data.toList=none):=by show _=_; rw[hS,if_neg (fun h=>h39 h.1)]
   clear hS h39
   go_enter Tryz.func66,Tryz.ntmps66
   go_wp2
   go_ret2
   exact⟨by rw[uh HR]; rfl,Below.refl _ _⟩
def tps (w:UInt8) (ws:Bs) (o:Int) (i:Nat) (l:Bs) : List Nat:=match l with
 | []=>[]
 | c :: r=>if o=0∧(w :: ws).isPrefixOf (c :: r)=true then i :: tps w ws 0 (i+(ws.length+1)) (r.drop ws.length)
  else if c=39 then (match h:sE r with
   | none=>[]
   | some t=>tps w ws o (i+(r.length+1 - t.length)) t)
  else tps w ws (brkO o c) (i+1) r
termination_by l.length
decreasing_by
 ·simp only[List.length_cons,List.length_drop]; omega
 ·have:=sE_len h; simp only[List.length_cons]; omega
 ·simp only[List.length_cons]; omega
theorem tps_nil (w:UInt8) (ws:Bs) (o:Int) (i:Nat) : tps w ws o i []=[]:=by rw[tps]
theorem tps_hit {w:UInt8} {ws:Bs} {i:Nat} {c:UInt8} {r:Bs} (h:(w :: ws).isPrefixOf (c :: r)=true) : tps w ws 0 i (c :: r)=i :: tps w ws 0 (i+(ws.length+1)) (r.drop ws.length):=by
 rw[tps,if_pos ⟨rfl,h⟩]
theorem tps_39 {w:UInt8} {ws:Bs} {o:Int} {i:Nat} {r:Bs} (h:¬ (o=0∧(w :: ws).isPrefixOf (39 :: r)=true)) : tps w ws o i (39 :: r)=(match sE r with
  | none=>[]
  | some t=>tps w ws o (i+(r.length+1 - t.length)) t):=by
 rw[tps,if_neg h,if_pos rfl]
 split <;> rename_i e <;> rw[e]
theorem tps_chr {w:UInt8} {ws:Bs} {o:Int} {i:Nat} {c:UInt8} {r:Bs} (h:¬ (o=0∧(w :: ws).isPrefixOf (c :: r)=true)) (hc:c≠39) : tps w ws o i (c :: r)=tps w ws (brkO o c) (i+1) r:=by
 rw[tps,if_neg h,if_neg hc]
theorem fT_tps (w:UInt8) (ws:Bs) : ∀ (n:Nat) (l:Bs),l.length≤n→∀ (o:Int) (i:Nat),fT w ws o i l=(tps w ws o i l).head?
 | n,[],_,o,i=>by rw[fT,tps]; rfl
 | 0,c :: r,h,_,_=>by simp at h
 | n+1,c :: r,h,o,i=>by
  have hr:r.length≤n:=by simp at h; omega
  by_cases hh:o=0∧(w :: ws).isPrefixOf (c :: r)=true
  ·rw[fT,if_pos hh,tps,if_pos hh]; rfl
  ·by_cases hc:c=39
   ·subst hc
    rw[tps_39 hh,fT,if_neg hh,if_pos rfl]
    split
    ·rename_i e; rw[e]; rfl
    ·rename_i t e
     rw[e]
     have:=sE_len e
     exact fT_tps w ws n t (by omega) _ _
   ·rw[tps_chr hh hc,fT,if_neg hh,if_neg hc]
    exact fT_tps w ws n r hr _ _
def cutL (s:Bs) (n:Nat) : Nat→List Nat→List Bs
 | f,[]=>[s.drop f]
 | f,c :: r=>(s.drop f).take (c - f) :: cutL s n (c+n) r
theorem spl_tps (w:UInt8) (ws:Bs) (s:Bs) : ∀ (n:Nat) (l:Bs),l.length≤n→∀ (o:Int) (i f:Nat) (cur:Bs),f≤i→l=s.drop i→cur=(s.drop f).take (i - f)→spl w ws o cur l=cutL s (ws.length+1) f (tps w ws o i l)
 | n,[],_,o,i,f,cur,hf,hl,hcur=>by
  rw[spl_nil,tps_nil,cutL,hcur]
  have:s.length≤i:=List.drop_eq_nil_iff.1 hl.symm
  rw[List.take_of_length_le (by rw[List.length_drop]; omega)]
 | 0,c :: r,h,_,_,_,_,_,_,_=>by simp at h
 | n+1,c :: r,h,o,i,f,cur,hf,hl,hcur=>by
  have hr:r.length≤n:=by simp at h; omega
  have hcat:s.drop f=cur++(c :: r):=by
   rw[hcur,hl]
   conv=>lhs; rw[← List.take_append_drop (i - f) (s.drop f)]
   rw[List.drop_drop,show f+(i - f)=i by omega]
  have hlen:cur.length=i - f:=by
   rw[hcur,List.length_take,List.length_drop]
   have:=congrArg List.length hl
   rw[List.length_drop,List.length_cons] at this
   omega
  have hr1:r=s.drop (i+1):=by
   have:=congrArg List.tail hl
   rw[List.tail_cons,List.tail_drop] at this
   exact this
  have next:∀ (p t:Bs),c :: r=p++t→cur++p=(s.drop f).take (i+p.length - f)∧t=s.drop (i+p.length):=by
   intro p t e
   constructor
   ·rw[hcat,e,← List.append_assoc,List.take_append_of_le_length (by rw[List.length_append]; omega),List.take_of_length_le (by rw[List.length_append]; omega)]
   ·have h1:s.drop (i+p.length)=(c :: r).drop p.length:=by rw[hl,List.drop_drop]
    rw[h1,e,List.drop_left]
  by_cases hh:o=0∧(w :: ws).isPrefixOf (c :: r)=true
  ·obtain⟨rfl,hp⟩:=hh
   obtain⟨q,hq⟩:=List.isPrefixOf_iff_prefix.1 hp
   have e:c :: r=w :: (ws++q):=by rw[← hq]; rfl
   have hd:r.drop ws.length=q:=by
    injection e with _ e2
    rw[e2,List.drop_left]
   rw[tps_hit hp,cutL,← hcur,e,spl_hit,hd]
   congr 1
   have hq2:=(next (w :: ws) q (by rw[e]; rfl)).2
   rw[List.length_cons] at hq2
   exact spl_tps w ws s n q (by have:=congrArg List.length e; simp at this h; omega) 0 (i+(ws.length+1)) (i+(ws.length+1)) [] (Nat.le_refl _) hq2 (by simp)
  ·by_cases hc:c=39
   ·subst hc
    rw[tps_39 hh,spl,if_neg hh,if_pos rfl]
    split
    ·rename_i e
     rw[e,cutL,hcat]
    ·rename_i t e
     rw[e]
     have hlt:=sE_len e
     have ht:=sE_take e
     have hn:=next (39 :: r.take (r.length - t.length)) t (by rw[List.cons_append,← ht])
     have hl2:(39 :: r.take (r.length - t.length)).length=r.length+1 - t.length:=by
      rw[List.length_cons,List.length_take]; omega
     rw[hl2] at hn
     exact spl_tps w ws s n t (by omega) o _ f _ (by omega) hn.2 hn.1
   ·rw[tps_chr hh hc,spl,if_neg hh,if_neg hc]
    have hn:=next [c] r rfl
    exact spl_tps w ws s n r hr (brkO o c) (i+1) f _ (by omega) hn.2 hn.1
theorem spl_cut (w:UInt8) (ws s:Bs) : spl w ws 0 [] s=cutL s (ws.length+1) 0 (tps w ws 0 0 s):=spl_tps w ws s s.length s (Nat.le_refl _) 0 0 0 [] (Nat.le_refl _) (by simp) (by simp)
def TI (w:World) (B:Nat) (v:Value) (ns:List Nat) : Prop:=w.ownsRow B 3 1 v ns.length (ns.map fun (n:Nat)=>Value.int .i64 (n:Int))
theorem infoIn:(Tryz.prog.info? 3).map (fun i=>(i.zero,i.size,i.bytes))=some (some (.int .i64 0),1,8):=by kernel_rfl
theorem TI.snoc {w:World} {B:Nat} {v:Value} {ns:List Nat} {n:Nat} (h:w.ownsRow B 3 1 v (ns.length+1) ((ns.map fun (n:Nat)=>Value.int .i64 (n:Int))++[.int .i64 (n:Int)])) : TI w B v (ns++[n]):=by
 unfold TI
 rw[List.length_append,List.map_append]
 exact h
theorem wordB_walk (s t:ByteArray) (i:Nat) (w:World) (hs:s.size≤1048576) (ht:t.size≤10) (hi:i≤s.size) :
  Calls Tryz.prog 40 #[.string s,.int .i64 (i:Int),.string t] w fun e w'=>e = .returned (.bool (t.data.toList.isPrefixOf (dr s i)))∧w=w':=by
 have hdt:=data_len t
 by_cases hin:i+t.size≤s.size
 ·have h1:(i:Int)+(t.size:Int)≤(s.size:Int):=by omega
  have h2:(i:Int)≤(i:Int)+(t.size:Int):=by omega
  have h3:(0:Int)≤(i:Int):=by omega
  have HV:Hid (t.data.toList.isPrefixOf (dr s i)=((s.extract i (i+t.size)).toList == t.toList)):=by
   show _=_
   rw[ByteArray.toList_eq,ByteArray.toList_eq,Lib.extract_data,show i+t.size - i=t.size by omega]
   show _=((dr s i).take t.size == t.data.toList)
   rw[Bool.eq_iff_iff,List.isPrefixOf_iff_prefix,beq_iff_eq,List.prefix_iff_eq_take,hdt]
   exact⟨Eq.symm,Eq.symm⟩
  clear hdt
  go_enter Tryz.func40,Tryz.ntmps40
  go_wp2
  go_ret
  exact⟨by rw[uh HV]; rfl,rfl⟩
 ·have h1:¬ (i:Int)+(t.size:Int)≤(s.size:Int):=by omega
  have HV:Hid (t.data.toList.isPrefixOf (dr s i)=false):=by
   show _=_
   rw[Bool.eq_false_iff]
   intro h
   have:=(List.isPrefixOf_iff_prefix.1 h).length_le
   rw[hdt,dr_len] at this
   omega
  clear hdt
  go_enter Tryz.func40,Tryz.ntmps40
  go_wp2
  go_ret
  exact⟨by rw[uh HV]; rfl,rfl⟩
theorem tops_walk (s t:ByteArray) (c:UInt8) (ws:Bs) (w:World) (hs:s.size≤1048576) (ht:t.data.toList=c :: ws) (hts:t.size≤10) :
  Calls Tryz.prog 64 #[.string s,.string t] w fun e w'=>∃ v,e = .returned v∧TI w' w.heap.size v (tps c ws 0 0 s.data.toList)∧Below w.heap.size w w':=by
 obtain⟨i0,hi,hz0,hz1,hz2⟩:=info_parts infoIn
 have HW:Hid (∀ (k:Nat) (hk:k≤s.size) (w:World),Calls Tryz.prog 40 #[.string s,.int .i64 (k:Int),.string t] w fun e w'=>e = .returned (.bool ((c :: ws).isPrefixOf (dr s k)))∧w=w'):=fun k hk w=>by rw[← ht]; exact wordB_walk s t k w hs hts hk
 have HE:Hid (∀ (k:Nat) (hk:k < s.size) (w:World),Calls Tryz.prog 63 #[.string s,.int .i64 (k:Int)] w fun e w'=>e = .returned (.int .i64 (plcO s (sE (dr s (k+1)))))∧w=w'):=fun k hk w=>strEnd_walk s k hk w hs
 have htl:t.size=ws.length+1:=by rw[← data_len,ht]; rfl
 generalize hR:tps c ws 0 0 s.data.toList=R
 have HR:Hid (tps c ws 0 0 (dr s 0)=R):=hR
 clear hR ht
 go_enter Tryz.func64,Tryz.ntmps64
 go_wp2
 go_loopw [5,6,7] (fun v ov iv wr=>∃ (k:Nat) (o:Int) (ns:List Nat),k≤s.size∧ns.length≤k∧ov = .int .i64 o∧iv = .int .i64 (k:Int)∧-(k:Int)≤o∧o≤(k:Int)∧Hid (ns++tps c ws o k (dr s k)=R)∧Hid (TI wr w.heap.size v ns)∧Below w.heap.size w wr) (fun _ _ iv _=>s.size - (intOf iv).toNat)
 case atStart=>exact⟨0,0,[],by omega,by simp,rfl,rfl,by simp,by simp,HR,World.ownsRow_lit w #[] 0 (Nat.le_refl _) (by unfold maxLen; omega) rfl,(Below.refl _ _).alloc (Nat.le_refl _) _⟩
 case round=>
  obtain⟨k,o,ns,hk,hns,rfl,rfl,hO1,hO2,hd,hown,hb⟩:=hrel
  clear HR
  have hwsz:=hb.size
  have HB:=hide hb
  clear hb
  by_cases hlt:k < s.size
  ·have hltI:(k:Int) < (s.size:Int):=by omega
   have hE:=dr_at hlt
   have HEk:Hid (∀ w,Calls Tryz.prog 63 #[.string s,.int .i64 (k:Int)] w fun e w'=>e = .returned (.int .i64 (plcO s (sE (dr s (k+1)))))∧w=w'):=fun w=>uh HE k hlt w
   have HWk:Hid (∀ w,Calls Tryz.prog 40 #[.string s,.int .i64 (k:Int),.string t] w fun e w'=>e = .returned (.bool ((c :: ws).isPrefixOf (dr s k)))∧w=w'):=fun w=>uh HW k hk w
   clear HE HW
   by_cases ho:o=0
   ·subst ho
    cases hp:(c :: ws).isPrefixOf (dr s k) with
    | true=>
     rw[hp] at HWk
     have hle:k+t.size≤s.size:=by
      have:=(List.isPrefixOf_iff_prefix.1 hp).length_le
      rw[dr_len,List.length_cons] at this
      omega
     have HN:Hid ((ns++[k])++tps c ws 0 (k+t.size) (dr s (k+t.size))=R):=by
      show _=_
      rw[← uh hd,hE,tps_hit (by rw[← hE]; exact hp),dr_dr,htl,List.append_assoc,show k+1+ws.length=k+(ws.length+1) by omega]; rfl
     clear hd hE hp HEk
     go_wp2_with fail
     refine (uh HWk _).mono ?_
     rintro e w2 ⟨rfl,rfl⟩
     clear HWk
     go_wp2_with (at_builtin; refine wpList_append_own _ rfl (.tmp 21) (.tmp 23) 115 rfl w.heap.size 3 i0 (.int .i64 0) 1 8 Tryz.underlying115 hi hz0 hz1 hz2 rfl (by decide) _ _ _ rfl ((uh hown).alloc _) ⟨wr.heap.size,0,none⟩ 1 1 [.int .i64 (k:Int)] rfl rfl (lit1 _ _ _) (one1 _ _) (by unfold maxLen; omega) (by omega) (by simp; omega) ?_)
     intro v2 w2 hown2 hgrow2 _
     have HB2:Hid (Below w.heap.size w w2):=((uh HB).alloc hwsz _).grown hgrow2 (by simp; omega) (fun k hk=>((uh hown).lt k hk).1)
     have HO2:Hid (TI w2 w.heap.size v2 (ns++[k])):=TI.snoc hown2
     clear hown2 hgrow2 hown HB
     go_wp2
     go_roundw
     case rel=>exact⟨k+t.size,0,ns++[k],hle,by simp; omega,rfl,by go_num,by omega,by omega,HN,HO2,uh HB2⟩
     case measure=>simp[intOf]; omega
    | false=>
     rw[hp] at HWk
     have hno:¬ ((0:Int)=0∧(c :: ws).isPrefixOf (s[k] :: dr s (k+1))=true):=by rw[← hE,hp]; rintro⟨-,h⟩; cases h
     clear hp
     by_cases h39:s[k]=39
     ·have h39I:((s[k].toNat:Nat) : Int)=39:=u8_is h39
      rw[hE,h39] at hd
      rw[h39] at hno
      cases ht:sE (dr s (k+1)) with
      | none=>
       rw[ht] at HEk
       have HN:Hid (ns=R):=by
        show _=_
        rw[← uh hd,tps_39 hno,ht]; simp
       clear hd hE h39 ht hno
       go_wp2_with fail
       refine (uh HWk _).mono ?_
       rintro e w2 ⟨rfl,rfl⟩
       clear HWk
       go_wp2_with fail
       refine (uh HEk _).mono ?_
       rintro e w2 ⟨rfl,rfl⟩
       clear HEk
       go_wp2
       go_ret
       exact⟨_,rfl,by rw[← uh HN]; exact uh hown,uh HB⟩
      | some x=>
       rw[ht] at HEk
       obtain⟨e1,e2⟩:=sE_dr hlt ht
       have HN:Hid (ns++tps c ws (0) (s.size - x.length) (dr s (s.size - x.length))=R):=by
        show _=_
        rw[← uh hd,tps_39 hno,ht]
        simp only
        rw[← e1,dr_len]
        congr 2; omega
       have hq:∃ q:Nat,s.size - x.length=q∧k < q∧q≤s.size:=⟨_,rfl,by omega,by omega⟩
       obtain⟨q,hq,hq1,hq2⟩:=hq
       have HEq:Hid (∀ w,Calls Tryz.prog 63 #[.string s,.int .i64 (k:Int)] w fun e w'=>e = .returned (.int .i64 (q:Int))∧w=w'):=by
        have:=uh HEk
        unfold plcO at this
        simp only at this
        rw[hq] at this
        exact this
       rw[hq] at HN
       have hqI:¬ (q:Int) < 0:=by omega
       clear hd hE h39 ht HEk e1 e2 hq hno
       go_wp2_with fail
       refine (uh HWk _).mono ?_
       rintro e w2 ⟨rfl,rfl⟩
       clear HWk
       go_wp2_with fail
       refine (uh HEq _).mono ?_
       rintro e w2 ⟨rfl,rfl⟩
       clear HEq
       go_wp2
       go_roundw
       case rel=>exact⟨q,0,ns,hq2,by omega,rfl,rfl,by omega,by omega,HN,hown,uh HB⟩
       case measure=>simp[intOf]; omega
     ·have h39I:¬ ((s[k].toNat:Nat) : Int)=39:=u8_not h39
      clear HEk
      by_cases h40:s[k]=40
      ·have h40I:((s[k].toNat:Nat) : Int)=40:=u8_is h40
       have HN:Hid (ns++tps c ws (0+1) (k+1) (dr s (k+1))=R):=by
        show _=_
        rw[← uh hd,hE,tps_chr hno h39,show brkO (0) s[k]=0+1 by unfold brkO; rw[if_pos (.inl h40)]]
       clear hd hE h39 hno h40
       go_wp2_with fail
       refine (uh HWk _).mono ?_
       rintro e w2 ⟨rfl,rfl⟩
       clear HWk
       go_wp2
       go_roundw
       case rel=>exact⟨k+1,0+1,ns,by omega,by omega,by go_num,by go_num,by omega,by omega,HN,hown,uh HB⟩
       case measure=>simp[intOf]; omega
      ·have h40I:¬ ((s[k].toNat:Nat) : Int)=40:=u8_not h40
       by_cases h91:s[k]=91
       ·have h91I:((s[k].toNat:Nat) : Int)=91:=u8_is h91
        have HN:Hid (ns++tps c ws (0+1) (k+1) (dr s (k+1))=R):=by
         show _=_
         rw[← uh hd,hE,tps_chr hno h39,show brkO (0) s[k]=0+1 by unfold brkO; rw[if_pos (.inr h91)]]
        clear hd hE h39 hno h40 h91
        go_wp2_with fail
        refine (uh HWk _).mono ?_
        rintro e w2 ⟨rfl,rfl⟩
        clear HWk
        go_wp2
        go_roundw
        case rel=>exact⟨k+1,0+1,ns,by omega,by omega,by go_num,by go_num,by omega,by omega,HN,hown,uh HB⟩
        case measure=>simp[intOf]; omega
       ·have h91I:¬ ((s[k].toNat:Nat) : Int)=91:=u8_not h91
        by_cases h41:s[k]=41
        ·have h41I:((s[k].toNat:Nat) : Int)=41:=u8_is h41
         have HN:Hid (ns++tps c ws (0 - 1) (k+1) (dr s (k+1))=R):=by
          show _=_
          rw[← uh hd,hE,tps_chr hno h39,show brkO (0) s[k]=0 - 1 by unfold brkO; rw[if_neg (by rintro (h | h); exact h40 h; exact h91 h),if_pos (.inl h41)]]
         clear hd hE h39 hno h40 h91 h41
         go_wp2_with fail
         refine (uh HWk _).mono ?_
         rintro e w2 ⟨rfl,rfl⟩
         clear HWk
         go_wp2
         go_roundw
         case rel=>exact⟨k+1,0 - 1,ns,by omega,by omega,by go_num,by go_num,by omega,by omega,HN,hown,uh HB⟩
         case measure=>simp[intOf]; omega
        ·have h41I:¬ ((s[k].toNat:Nat) : Int)=41:=u8_not h41
         by_cases h93:s[k]=93
         ·have h93I:((s[k].toNat:Nat) : Int)=93:=u8_is h93
          have HN:Hid (ns++tps c ws (0 - 1) (k+1) (dr s (k+1))=R):=by
           show _=_
           rw[← uh hd,hE,tps_chr hno h39,show brkO (0) s[k]=0 - 1 by unfold brkO; rw[if_neg (by rintro (h | h); exact h40 h; exact h91 h),if_pos (.inr h93)]]
          clear hd hE h39 hno h40 h91 h41 h93
          go_wp2_with fail
          refine (uh HWk _).mono ?_
          rintro e w2 ⟨rfl,rfl⟩
          clear HWk
          go_wp2
          go_roundw
          case rel=>exact⟨k+1,0 - 1,ns,by omega,by omega,by go_num,by go_num,by omega,by omega,HN,hown,uh HB⟩
          case measure=>simp[intOf]; omega
         ·have h93I:¬ ((s[k].toNat:Nat) : Int)=93:=u8_not h93
          have HN:Hid (ns++tps c ws (0) (k+1) (dr s (k+1))=R):=by
           show _=_
           rw[← uh hd,hE,tps_chr hno h39,show brkO (0) s[k]=0 by unfold brkO; rw[if_neg (by rintro (h | h); exact h40 h; exact h91 h),if_neg (by rintro (h | h); exact h41 h; exact h93 h)]]
          clear hd hE h39 hno h40 h91 h41 h93
          have b40:(((s[k].toNat:Nat) : Int) == 40)=false:=beq_eq_false_iff_ne.2 h40I
          have b91:(((s[k].toNat:Nat) : Int) == 91)=false:=beq_eq_false_iff_ne.2 h91I
          have b41:(((s[k].toNat:Nat) : Int) == 41)=false:=beq_eq_false_iff_ne.2 h41I
          have b93:(((s[k].toNat:Nat) : Int) == 93)=false:=beq_eq_false_iff_ne.2 h93I
          go_wp2_with fail
          refine (uh HWk _).mono ?_
          rintro e w2 ⟨rfl,rfl⟩
          clear HWk
          go_wp2
          go_roundw
          case rel=>exact⟨k+1,0,ns,by omega,by omega,by go_num,by go_num,by omega,by omega,HN,hown,uh HB⟩
          case measure=>simp[intOf]; omega
   ·have hno:¬ (o=0∧(c :: ws).isPrefixOf (s[k] :: dr s (k+1))=true):=fun h=>ho h.1
    clear HWk
    by_cases h39:s[k]=39
    ·have h39I:((s[k].toNat:Nat) : Int)=39:=u8_is h39
     rw[hE,h39] at hd
     rw[h39] at hno
     cases ht:sE (dr s (k+1)) with
     | none=>
      rw[ht] at HEk
      have HN:Hid (ns=R):=by
       show _=_
       rw[← uh hd,tps_39 hno,ht]; simp
      clear hd hE h39 ht hno
      go_wp2_with fail
      refine (uh HEk _).mono ?_
      rintro e w2 ⟨rfl,rfl⟩
      clear HEk
      go_wp2
      go_ret
      exact⟨_,rfl,by rw[← uh HN]; exact uh hown,uh HB⟩
     | some x=>
      rw[ht] at HEk
      obtain⟨e1,e2⟩:=sE_dr hlt ht
      have HN:Hid (ns++tps c ws (o) (s.size - x.length) (dr s (s.size - x.length))=R):=by
       show _=_
       rw[← uh hd,tps_39 hno,ht]
       simp only
       rw[← e1,dr_len]
       congr 2; omega
      have hq:∃ q:Nat,s.size - x.length=q∧k < q∧q≤s.size:=⟨_,rfl,by omega,by omega⟩
      obtain⟨q,hq,hq1,hq2⟩:=hq
      have HEq:Hid (∀ w,Calls Tryz.prog 63 #[.string s,.int .i64 (k:Int)] w fun e w'=>e = .returned (.int .i64 (q:Int))∧w=w'):=by
       have:=uh HEk
       unfold plcO at this
       simp only at this
       rw[hq] at this
       exact this
      rw[hq] at HN
      have hqI:¬ (q:Int) < 0:=by omega
      clear hd hE h39 ht HEk e1 e2 hq hno
      go_wp2_with fail
      refine (uh HEq _).mono ?_
      rintro e w2 ⟨rfl,rfl⟩
      clear HEq
      go_wp2
      go_roundw
      case rel=>exact⟨q,o,ns,hq2,by omega,rfl,rfl,by omega,by omega,HN,hown,uh HB⟩
      case measure=>simp[intOf]; omega
    ·have h39I:¬ ((s[k].toNat:Nat) : Int)=39:=u8_not h39
     clear HEk
     by_cases h40:s[k]=40
     ·have h40I:((s[k].toNat:Nat) : Int)=40:=u8_is h40
      have HN:Hid (ns++tps c ws (o+1) (k+1) (dr s (k+1))=R):=by
       show _=_
       rw[← uh hd,hE,tps_chr hno h39,show brkO (o) s[k]=o+1 by unfold brkO; rw[if_pos (.inl h40)]]
      clear hd hE h39 hno h40
      go_wp2
      go_roundw
      case rel=>exact⟨k+1,o+1,ns,by omega,by omega,by go_num,by go_num,by omega,by omega,HN,hown,uh HB⟩
      case measure=>simp[intOf]; omega
     ·have h40I:¬ ((s[k].toNat:Nat) : Int)=40:=u8_not h40
      by_cases h91:s[k]=91
      ·have h91I:((s[k].toNat:Nat) : Int)=91:=u8_is h91
       have HN:Hid (ns++tps c ws (o+1) (k+1) (dr s (k+1))=R):=by
        show _=_
        rw[← uh hd,hE,tps_chr hno h39,show brkO (o) s[k]=o+1 by unfold brkO; rw[if_pos (.inr h91)]]
       clear hd hE h39 hno h40 h91
       go_wp2
       go_roundw
       case rel=>exact⟨k+1,o+1,ns,by omega,by omega,by go_num,by go_num,by omega,by omega,HN,hown,uh HB⟩
       case measure=>simp[intOf]; omega
      ·have h91I:¬ ((s[k].toNat:Nat) : Int)=91:=u8_not h91
       by_cases h41:s[k]=41
       ·have h41I:((s[k].toNat:Nat) : Int)=41:=u8_is h41
        have HN:Hid (ns++tps c ws (o - 1) (k+1) (dr s (k+1))=R):=by
         show _=_
         rw[← uh hd,hE,tps_chr hno h39,show brkO (o) s[k]=o - 1 by unfold brkO; rw[if_neg (by rintro (h | h); exact h40 h; exact h91 h),if_pos (.inl h41)]]
        clear hd hE h39 hno h40 h91 h41
        go_wp2
        go_roundw
        case rel=>exact⟨k+1,o - 1,ns,by omega,by omega,by go_num,by go_num,by omega,by omega,HN,hown,uh HB⟩
        case measure=>simp[intOf]; omega
       ·have h41I:¬ ((s[k].toNat:Nat) : Int)=41:=u8_not h41
        by_cases h93:s[k]=93
        ·have h93I:((s[k].toNat:Nat) : Int)=93:=u8_is h93
         have HN:Hid (ns++tps c ws (o - 1) (k+1) (dr s (k+1))=R):=by
          show _=_
          rw[← uh hd,hE,tps_chr hno h39,show brkO (o) s[k]=o - 1 by unfold brkO; rw[if_neg (by rintro (h | h); exact h40 h; exact h91 h),if_pos (.inr h93)]]
         clear hd hE h39 hno h40 h91 h41 h93
         go_wp2
         go_roundw
         case rel=>exact⟨k+1,o - 1,ns,by omega,by omega,by go_num,by go_num,by omega,by omega,HN,hown,uh HB⟩
         case measure=>simp[intOf]; omega
        ·have h93I:¬ ((s[k].toNat:Nat) : Int)=93:=u8_not h93
         have HN:Hid (ns++tps c ws (o) (k+1) (dr s (k+1))=R):=by
          show _=_
          rw[← uh hd,hE,tps_chr hno h39,show brkO (o) s[k]=o by unfold brkO; rw[if_neg (by rintro (h | h); exact h40 h; exact h91 h),if_neg (by rintro (h | h); exact h41 h; exact h93 h)]]
         clear hd hE h39 hno h40 h91 h41 h93
         have b40:(((s[k].toNat:Nat) : Int) == 40)=false:=beq_eq_false_iff_ne.2 h40I
         have b91:(((s[k].toNat:Nat) : Int) == 91)=false:=beq_eq_false_iff_ne.2 h91I
         have b41:(((s[k].toNat:Nat) : Int) == 41)=false:=beq_eq_false_iff_ne.2 h41I
         have b93:(((s[k].toNat:Nat) : Int) == 93)=false:=beq_eq_false_iff_ne.2 h93I
         go_wp2
         go_roundw
         case rel=>exact⟨k+1,o,ns,by omega,by omega,by go_num,by go_num,by omega,by omega,HN,hown,uh HB⟩
         case measure=>simp[intOf]; omega
  ·have HN:Hid (ns=R):=by
    show _=_
    rw[← uh hd,dr_end (by omega),tps_nil,List.append_nil]
   have hltI:¬ (k:Int) < (s.size:Int):=by omega
   clear hd HE HW
   go_wp2
   go_ret
   exact⟨_,rfl,by rw[← uh HN]; exact uh hown,uh HB⟩
end Go.Proofs.YtkjcgkfejdogbaaGreatDoor
