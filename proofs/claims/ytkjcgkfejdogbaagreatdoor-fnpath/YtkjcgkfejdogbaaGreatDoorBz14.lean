import Derived.Deep.CutRange
import Derived.Test.YtkjcgkfejdogbaaGreatDoorBz5
import Derived.Test.YtkjcgkfejdogbaaGreatDoorBz13
import Derived.Test.YtkjcgkfejdogbaaGreatDoorBz11
set_option maxRecDepth 100000
set_option maxHeartbeats 8000000
namespace Go.Proofs.YtkjcgkfejdogbaaGreatDoor
open Go.RowKit
def VCond (ops:List PFOp) (bl:List Nat) (w:World) : Ending→World→Prop:=fun e w'=>∃ v,e = .returned (.tuple #[v,.bool (condR ops).isSome])∧Below w.heap.size w w'∧(∃ p,v = .pointer p)∧∀ c,condR ops=some c→∃ n,(condK n).R w' (fun b=>b∈bl∨w.heap.size≤b) [v] c
theorem parts_le (k:Int) : parts k≤2:=by
 unfold parts
 split
 ·omega
 ·split <;> omega
theorem runT_none {ops:List PFOp} {j:Nat} (hj:j < ops.length) {st:List CT} (h:runT (ops.take j) []=some st) (hs:stepT st ops[j]=none) : condR ops=none:=by
 have e:ops=ops.take j++([ops[j]]++ops.drop (j+1)):=by
  rw[← List.append_assoc,← List.take_succ_eq_append_getElem hj,List.take_append_drop]
 unfold condR
 split
 ·rfl
 ·have:runT ops []=none:=by
   rw[e,runT_app,h,Option.bind_some,runT_app,runT,hs]; rfl
  rw[this]
theorem runT_next {ops:List PFOp} {j:Nat} (hj:j < ops.length) {st st':List CT} (h:runT (ops.take j) []=some st) (hs:stepT st ops[j]=some st') : runT (ops.take (j+1)) []=some st':=by
 rw[List.take_succ_eq_append_getElem hj,runT_snoc h,hs]
theorem stepT_few {st:List CT} {o:PFOp} (h:st.length < parts o.k) : stepT st o=none:=by unfold stepT; rw[if_pos h]
theorem stepT_bad {st:List CT} {o:PFOp} (h:fopOk o=false) : stepT st o=none:=by unfold stepT; rw[if_pos h]; split <;> rfl
theorem stepT_fit {st:List CT} {o:PFOp} {r:Nat} (hr:st.length=r+parts o.k) (hf:fopOk o=true) : stepT st o=if ((st.drop r).all fun c=>c.tru != (o.k == 9))=true then some (st.take r++[.mk o (st.drop r)]) else none:=by
 unfold stepT
 rw[if_neg (by omega),if_neg (by rw[hf]; simp),show st.length - parts o.k=r by omega]
theorem sz_steps {l:List PFOp} (h:szFops l≤1048576) {o:PFOp} (ho:o∈l) : o.steps.length≤1048576:=by
 have h1:=sum_mem szFop ho
 have e1:szFop o=o.s.size+szSteps o.steps:=rfl
 have e2:szSteps o.steps=o.steps.length+(o.steps.map szStep).sum:=rfl
 have e3:szFops l=l.length+(l.map szFop).sum:=rfl
 omega
theorem LRow.empty {α:Type} (e:KE α) (w:World) (S:Nat→Prop) (a:Option Addr) (cap:Nat) : LRow e w S (.slice a 0 cap) []:=⟨a,cap,0,[],rfl,fun h=>by simp at h,⟨rfl,fun j vs x h=>by simp at h⟩,fun j vs h=>by simp at h⟩
theorem lrow_own {n:Nat} {w:World} {S:Nat→Prop} {B:Nat} {rv:Value} {cls:List Value} {xs:List CT} (ho:w.ownsRow B 84 1 rv cls.length cls) (hE:Els (condK n) w S (cls.map fun u=>[u]) xs) (hS:∀ b,B≤b→S b) : LRow (condK n) w S rv xs:=by
 have hl:=hE.1
 rw[List.length_map] at hl
 rcases ho.2 with ⟨hv,h0⟩ | ⟨g,cap,cur,hv,hB,hr⟩
 ·have hx:xs=[]:=List.eq_nil_of_length_eq_zero (by omega)
  subst hx
  rw[hv]
  exact LRow.empty _ _ _ _ _
 ·refine⟨_,_,g,_,by rw[hv,hl],fun _=>⟨rfl,hS g hB⟩,hE,fun j vs h1 m u hu=>?_⟩
  rw[hv] at ho
  rw[List.getElem?_map] at h1
  cases hq:cls[j]? with
  | none=>rw[hq] at h1; cases h1
  | some y=>
   rw[hq] at h1
   simp at h1
   subst h1
   have hm:m=0:=by have:=(List.getElem?_eq_some_iff.1 hu).1; simp at this; exact this
   subst hm
   simp at hu
   subst hu
   have hj:=(List.getElem?_eq_some_iff.1 hq).1
   rw[condK_wd,Nat.mul_one,Nat.add_zero,ho.cellAt _ (by omega)]
   exact hq
theorem own_parts {e:Ending} {w0 w':World} {B T size n:Nat} {xs:List Value} (h:∃ r,e = .returned r∧w'.ownsRow B T size r n xs∧Below B w0 w') : ∃ ra rn rc,e = .returned (.slice ra rn rc)∧w'.ownsRow B T size (.slice ra rn rc) n xs∧Below B w0 w':=by
 obtain⟨r,rfl,ho,hb⟩:=h
 rcases ho.2 with ⟨rfl,-⟩ | ⟨g,cap,cur,rfl,-⟩
 ·exact⟨_,_,_,rfl,ho,hb⟩
 ·exact⟨_,_,_,rfl,ho,hb⟩
theorem litK_cells (w:World) (vs:List Value) (T:TypeId) : ∀ (j:Nat) (u:Value),vs[j]?=some u→(w.alloc (.cells vs.toArray T)).cell? ((⟨w.heap.size,0,none⟩ : Addr).add j)=some u:=by
 intro j u hu
 have h:=Lib.cell_of_heap (heap_alloc_new w (.cells vs.toArray T)) j
 rw[Go.WideShapes.add_plain,Nat.zero_add,h]
 simpa using hu
theorem drop_vals {n:Nat} {w2:World} {S0:Nat→Prop} {B g N cap r:Nat} {st:List CT} (h:WRow (condK n) w2 S0 B (.slice (some ⟨g,0,none⟩) N cap) st) (hr:r≤st.length) :
  ∃ cls:List Value,Hid (cls.length=st.length - r∧Els (condK n) w2 (Hd S0 B (some g)) (cls.map fun u=>[u]) (st.drop r))∧Hid (∀ u∈cls,u.oneCell'=true)∧Hid (∀ (jj:Nat) (u:Value),cls[jj]?=some u→w2.drew.cell? ((⟨g,r,none⟩ : Addr).add jj)=some u):=by
 have hat:=fun (jj:Nat) (c:CT) (hc:st[jj]?=some c)=>h.at (j:=jj) hc
 obtain⟨vss,hE,ho⟩:=h
 have hl:=hE.1
 have hwd:=hE.wd
 rw[condK_wd] at hwd
 have hone:∀ p∈vss,∃ b,p=[Value.pointer (some ⟨b,0,none⟩)]:=fun p hp=>by
  obtain⟨jj,hj,rfl⟩:=List.mem_iff_getElem.1 hp
  obtain⟨b,-,-,e,-⟩:=condK_cells (hE.2 jj _ (st[jj]'(by omega)) (List.getElem?_eq_getElem hj) (List.getElem?_eq_getElem _))
  exact⟨b,e⟩
 have hN:N=st.length:=by
  rcases ho.2 with ⟨hv,h0⟩ | ⟨g',cap',cur,hv,_⟩
  ·cases hv
  ·injection hv
 subst hN
 have hmap:(vss.drop r).flatten.map (fun u=>[u])=vss.drop r:=by
  have:∀ l:List (List Value),(∀ p∈l,∃ b,p=[Value.pointer (some ⟨b,0,none⟩)])→l.flatten.map (fun u=>[u])=l:=fun l=>by
   induction l with
   | nil=>intro _; rfl
   | cons x l ih=>
    intro hx
    obtain⟨b,rfl⟩:=hx x List.mem_cons_self
    rw[List.flatten_cons,List.map_append,ih fun p hp=>hx p (List.mem_cons_of_mem _ hp)]
    rfl
  exact this _ fun p hp=>hone p (List.mem_of_mem_drop hp)
 have hwd2:∀ p∈vss.drop r,p.length=1:=fun p hp=>hwd p (List.mem_of_mem_drop hp)
 refine⟨(vss.drop r).flatten,⟨by rw[fl_len hwd2,List.length_drop,hl,Nat.mul_one],by rw[hmap]; exact hE.drop r⟩,?_,?_⟩
 ·intro u hu
  obtain⟨p,hp,hup⟩:=List.mem_flatten.1 hu
  obtain⟨b,rfl⟩:=hone p (List.mem_of_mem_drop hp)
  simp at hup; subst hup; rfl
 ·intro jj u hu
  have hj:jj < st.length - r:=by
   have:=(List.getElem?_eq_some_iff.1 hu).1
   rwa [fl_len hwd2,List.length_drop,hl,Nat.mul_one] at this
  have h1:(vss.drop r)[jj]?=some (vss[r+jj]'(by omega)):=by rw[List.getElem?_drop]; exact List.getElem?_eq_getElem _
  have h2:=fl_at hwd2 h1 0 (by decide)
  rw[Nat.mul_one,Nat.add_zero,hu] at h2
  have hmul:r+jj < st.length*(condK n).wd:=by rw[condK_wd]; omega
  have h3:=ho.cellAt (r+jj) hmul
  have h4:=fl_at hwd (List.getElem?_eq_getElem (l:=vss) (i:=r+jj) (by omega)) 0 (by decide)
  rw[Nat.mul_one,Nat.add_zero] at h4
  rw[h4,← h2] at h3
  rw[Go.WideShapes.add_plain]
  exact h3
theorem validCond_walk (v:Value) (ops:List PFOp) (bl:List Nat) (w:World) (h:TRow w v ops bl) (hs:szFops ops≤1048576) :
  Calls Tryz.prog 54 #[v] w (VCond ops bl w):=by
 have hlt0:=h.lt
 obtain⟨a,c,rfl,hxa⟩:=h.form
 have hlen:ops.length≤1048576:=by unfold szFops at hs; omega
 have hlI:(ops.length:Int)≤1048576:=by omega
 by_cases hbig:(1000:Int) < (ops.length:Int)
 ·have HV:Hid (condR ops=none):=by show _=_; unfold condR; rw[if_pos (by omega)]
  clear h hxa hs hlt0
  go_enter Tryz.func54,Tryz.ntmps54
  go_wp2
  go_ret2
  exact⟨_,by rw[uh HV]; rfl,Below.refl _ _,⟨_,rfl⟩,fun c hc=>by rw[uh HV] at hc; cases hc⟩
 have HS0:Hid (∀ b,b∈bl→b < w.heap.size):=hlt0
 have HROW:Hid (∀ (wr:World) (j:Nat) (hj:j < ops.length),Below w.heap.size w wr→∃ g of q ib,a=some ⟨g,of,none⟩∧wr.cell? ⟨g,of+j*5,none⟩=some (.int .i64 ops[j].k)∧wr.cell? ⟨g,of+j*5+1,none⟩=some (.int .i64 ops[j].n)∧wr.cell? ⟨g,of+j*5+2,none⟩=some (.string ops[j].s)∧wr.cell? ⟨g,of+j*5+3,none⟩=some (.bool ops[j].root)∧wr.cell? ⟨g,of+j*5+4,none⟩=some q ∧
   ORow stepE wr q ops[j].steps ib∧(∀ b∈ib,b∈bl)∧(∃ x y z,q = .slice x y z)∧∀ wx,Below wr.heap.size wr wx→Calls Tryz.prog 79 #[.agg #[.int .i64 ops[j].k,.int .i64 ops[j].n,.string ops[j].s,.bool ops[j].root,q]] wx fun e w'=>e = .returned (.bool (fopOk ops[j]))∧Below wx.heap.size wx w'):=by
  intro wr j hj hb
  obtain⟨g,of,rfl⟩:=hxa (by omega)
  obtain⟨vs,ib,hE,hc,hib⟩:=(h.below hb).at (List.getElem?_eq_getElem hj)
  obtain⟨q,rfl,hst⟩:=hE
  have hz:=sz_fop hs (List.getElem_mem hj)
  have hz2:=sz_steps hs (List.getElem_mem hj)
  obtain⟨x,z,hq,-,-⟩:=hst.form
  exact⟨g,of,q,ib,rfl,hc 0 _ rfl,hc 1 _ rfl,hc 2 _ rfl,hc 3 _ rfl,hc 4 _ rfl,hst,hib,⟨_,_,_,hq⟩,fun wx hx=>goodFOp_walk _ q ib wx (hst.below hx) hz.1 hz.2 hz2⟩
 have HDONE:Hid (∀ st,runT (ops.take ops.length) []=some st→condR ops=match st with | [c]=>if c.tru=true then some c else none | _=>none):=fun st e=>by
  rw[List.take_length] at e
  unfold condR
  rw[if_neg (by omega),e]
  match st with
  | []=>rfl
  | [_]=>rfl
  | _ :: _ :: _=>rfl
 clear h hxa hs hlt0
 go_enter Tryz.func54,Tryz.ntmps54
 go_wp2_with fail
 go_loopw [4,14] (fun sv iv wr=>∃ (j:Nat) (st:List CT),j≤ops.length∧iv = .int .i64 (j:Int)∧Hid (WRow (condK j) wr (·∈bl) w.heap.size sv st)∧Below w.heap.size w wr∧Hid (runT (ops.take j) []=some st)∧st.length≤j) (fun _ i _=>ops.length - (intOf i).toNat)
 case atStart=>exact⟨0,[],Nat.zero_le _,rfl,WRow.nil _ _ _ _,Below.refl _ _,rfl,Nat.le_refl _⟩
 case round=>
  obtain⟨j,st,hj,rfl,hW,hb,hrun,hstl⟩:=hrel
  by_cases hlt:j < ops.length
  ·have hltI:(j:Int) < (ops.length:Int):=by omega
   have hstI:(st.length:Int)≤1000:=by omega
   obtain⟨g0,of,q,ib,rfl,d0,d1,d2,d3,d4,hsteps,hib,⟨qx,qy,qz,rfl⟩,hgf⟩:=uh HROW _ j hlt hb
   have HGF:=hide hgf
   have HST:=hide hsteps
   have HIB:=hide hib
   have HNO:Hid (stepT st ops[j]=none→condR ops=none):=runT_none hlt (uh hrun)
   have HYES:Hid (∀ st',stepT st ops[j]=some st'→runT (ops.take (j+1)) []=some st'):=fun st'=>runT_next hlt (uh hrun)
   have HFEW:Hid (st.length < parts ops[j].k→stepT st ops[j]=none):=stepT_few
   have HBAD:Hid (fopOk ops[j]=false→stepT st ops[j]=none):=stepT_bad
   have HFIT:Hid (∀ r,st.length=r+parts ops[j].k→fopOk ops[j]=true→stepT st ops[j]=if ((st.drop r).all fun c=>c.tru != (ops[j].k == 9))=true then some (st.take r++[.mk ops[j] (st.drop r)]) else none):=fun r=>stepT_fit
   have HB:=hide hb
   have HPP:Hid (parts ops[j].k≤2):=parts_le _
   clear hsteps hib hgf HROW HDONE hb hrun
   generalize ops[j]=o at *
   obtain⟨k,n,s,root,steps⟩:=o
   simp only at *
   have HPT:Hid (∀ w,Calls Tryz.prog 78 #[.int .i64 k] w fun e w'=>e = .returned (.int .i64 (parts k:Int))∧w=w'):=fun w=>partsTaken_walk k w
   generalize hP:parts k=p at *
   clear hP
   have hp2:p≤2:=uh HPP
   have hpI:(p:Int)≤2:=by omega
   clear HPP
   rcases (uh hW).form with ⟨rfl,rfl⟩ | ⟨g,cap,rfl,hnc,hcm,hBg,hgl⟩
   ·skip
    have HBR:Hid (Below w.heap.size w (wr.alloc (Obj.cells #[.int .i64 k,.int .i64 n,.string s,.bool root,.slice qx qy qz] 37 (0,0)))):=below_next (uh HB) (alloc_b _ _)
    go_wp2_with fail
    refine (uh HPT _).mono ?_
    rintro e w1 ⟨rfl,rfl⟩
    clear d0 d1 d2 d3 d4 HPT
    by_cases hpl:0 < p
    ·have hplI:¬ (p:Int)≤0:=by omega
     have hplJ:(0:Int) < (p:Int):=by omega
     have hplK : -(p:Int) < 0:=by omega
     have HV:=hide (uh HNO (uh HFEW (by simpa using hpl)))
     clear HNO HYES HFEW HBAD HFIT HGF HST hW HIB
     go_wp2
     go_ret2
     exact⟨_,by rw[uh HV]; rfl,uh HBR,⟨_,rfl⟩,fun c hc=>by rw[uh HV] at hc; cases hc⟩
    obtain rfl:p=0:=by omega
    have HFT:=hide (uh HFIT 0 (by simp))
    clear HFIT HFEW hpl
    have HG2:=hide (uh HGF _ (alloc_b wr (Obj.cells #[.int .i64 k,.int .i64 n,.string s,.bool root,.slice qx qy qz] 37 (0,0))))
    clear HGF
    go_wp2_with fail
    refine (uh HG2).mono ?_
    rintro e w2 ⟨rfl,b2⟩
    have HB2:Hid (Below wr.heap.size wr w2):=below_next (alloc_b wr _) b2
    have HBW2:Hid (Below w.heap.size w w2):=below_next (uh HB) (uh HB2)
    have HC6:Hid (∀ w',Below w2.heap.size w2 w'→w'.cell? ⟨wr.heap.size,0,none⟩=some (.int .i64 k)∧w'.cell? ⟨wr.heap.size,1,none⟩=some (.int .i64 n)∧w'.cell? ⟨wr.heap.size,2,none⟩=some (.string s)∧w'.cell? ⟨wr.heap.size,3,none⟩=some (.bool root)∧w'.cell? ⟨wr.heap.size,4,none⟩=some (.slice qx qy qz)):=fun w' hb=>by
     have h0:=heap_alloc_new wr (Obj.cells #[.int .i64 k,.int .i64 n,.string s,.bool root,.slice qx qy qz] 37 (0,0))
     have h1:=(b2.block _ (Array.getElem?_eq_some_iff.1 h0).1).trans h0
     have h2:=(hb.block _ (Array.getElem?_eq_some_iff.1 h1).1).trans h1
     exact⟨Lib.cell_of_heap h2 0,Lib.cell_of_heap h2 1,Lib.cell_of_heap h2 2,Lib.cell_of_heap h2 3,Lib.cell_of_heap h2 4⟩
    have HW2:Hid (WRow (condK j) w2 (·∈bl) w.heap.size (.slice (none) 0 0) ([] : List CT)):=(uh hW).keep (uh HB2)
    have HST2:Hid (ORow stepE w2 (.slice qx qy qz) steps ib):=(uh HST).below (uh HB2)
    clear b2 HG2 hW HST HBR
    cases hf:fopOk ⟨k,n,s,root,steps⟩ with
    | false=>
     have HV:=hide (uh HNO (uh HBAD hf))
     have HBR:=HBW2
     clear HNO HYES HBAD HFT HC6 HW2 HST2 HIB hf
     go_wp2
     go_ret2
     exact⟨_,by rw[uh HV]; rfl,uh HBR,⟨_,rfl⟩,fun c hc=>by rw[uh HV] at hc; cases hc⟩
    | true=>
     have HFT2:=hide (uh HFT hf)
     clear HFT HBAD hf
     go_upto_region 10 with fail
     go_cut [8] from 31 to 37 (fun x wx=>∃ (b:Nat) (pa:Value),x = .pointer (some ⟨b,0,none⟩)∧wx.heap[b]?=some (.cells #[.int .i64 k,.int .i64 n,.string s,.bool root,.slice qx qy qz,pa] 132 (0,0))∧w2.heap.size≤b∧LRow (condK j) wx (Hd (·∈bl) w.heap.size (none)) pa (([] : List CT).drop 0)∧Below w2.heap.size w2 wx)
     case first=>
      have SD:=hide (uh HC6 w2.drew (Below.refl _ _).drew)
      have HCL:=hide (cloneC_nil w2.drew)
      clear HNO HYES HFT2
      go_region_held3 (fun w'=>w'.cell? ⟨wr.heap.size,0,none⟩=some (.int .i64 k)∧w'.cell? ⟨wr.heap.size,1,none⟩=some (.int .i64 n)∧w'.cell? ⟨wr.heap.size,2,none⟩=some (.string s)∧w'.cell? ⟨wr.heap.size,3,none⟩=some (.bool root)∧w'.cell? ⟨wr.heap.size,4,none⟩=some (.slice qx qy qz)) (first | exact uh SD | exact uh HC6 _ ((alloc_b w2 _).drew)) (first | (go_simp; refine (uh HCL).mono ?_; rintro e w3 ⟨rfl,rfl⟩; clear HCL))
      all_goals
       go_wp2
       go_meet
       case rel=>exact⟨_,_,rfl,heap_alloc_new _ _,Nat.le_refl _,LRow.empty _ _ _ _ _,(alloc_b w2 _).drew⟩
     case rest=>
      obtain⟨b,pa,rfl,hbk,hbb,hlr,hbc⟩:=hcut
      have HBC:=hide hbc
      have HPF:=hide (partsFit_walk b k _ _ _ _ pa (([] : List CT).drop 0) wc hbk hlr (by simp))
      have HNODE:Hid (∀ w',Below wc.heap.size wc w'→(condK (j+1)).R w' (Hd (·∈bl) w.heap.size (none)) [.pointer (some ⟨b,0,none⟩)] (.mk ⟨k,n,s,root,steps⟩ (([] : List CT).drop 0))):=fun w' hx=>by
       refine (condK (j+1)).move (w:=wc) ⟨b,_,pa,ib,rfl,.inr ⟨Nat.le_trans (uh HBW2).size hbb,?_⟩,hbk,(uh HST2).below hbc,fun x hx=>.inl (uh HIB x hx),hlr⟩ (.below hx)
       intro e; cases e
      have HROWT:Hid (∀ w',Below wc.heap.size wc w'→WRow (condK (j+1)) w' (·∈bl) w.heap.size (.slice (none) 0 0) ([])):=fun w' hx=>by
       exact WRow.nil _ _ _ _
      have HBWC:Hid (Below w.heap.size w wc):=below_next (uh HBW2) hbc
      have hwcz:w.heap.size≤wc.heap.size:=(uh HBWC).size
      have HWCZ:=hide hwcz
      clear hbk hbb hlr hbc HBC HC6 HW2 HST2 HIB hwcz
      go_wp2_with fail
      refine (uh HPF).mono ?_
      rintro e w4 ⟨rfl,d4,rfl⟩
      have HD4:Hid (Below wc.heap.size wc (wc.drewN d4)):=⟨rfl,rfl,rfl,Nat.le_refl _,fun _ _=>rfl⟩
      cases hall:(([] : List CT).drop 0).all (fun c=>c.tru != (k == 9)) with
      | false=>
       have HV:Hid (condR ops=none):=uh HNO (by rw[uh HFT2,if_neg (by rw[hall]; simp)])
       have HBR:Hid (Below w.heap.size w (wc.drewN d4)):=below_next (uh HBWC) (uh HD4)
       clear HNO HYES HFT2 HPF HNODE HROWT hall
       go_wp2
       go_ret2
       exact⟨_,by rw[uh HV]; rfl,uh HBR,⟨_,rfl⟩,fun c hc=>by rw[uh HV] at hc; cases hc⟩
      | true=>
       have HRUN:Hid (runT (ops.take (j+1)) []=some ((([] : List CT).take 0)++[.mk ⟨k,n,s,root,steps⟩ (([] : List CT).drop 0)])):=uh HYES _ (by rw[uh HFT2,if_pos hall])
       have HCELL:Hid (∀ (i:Nat) (u:Value),[Value.pointer (some ⟨b,0,none⟩)][i]?=some u→((wc.drewN d4).alloc (.cells #[.pointer (some ⟨b,0,none⟩)] 84)).cell? ((⟨wc.heap.size,0,none⟩ : Addr).add i)=some u):=fun i u hu=>litK_cells (wc.drewN d4) _ _ i u hu
       have HBA:Hid (Below wc.heap.size wc ((wc.drewN d4).alloc (.cells #[.pointer (some ⟨b,0,none⟩)] 84))):=below_next (uh HD4) (alloc_b _ _)
       clear HNO HYES HFT2 HPF hall
       go_wp2_with (at_builtin; refine wpList_append_K (condK (j+1)) Tryz.underlying128 infoCondP rfl (by decide) rfl (.tmp 43) (.tmp 45) rfl rfl (uh HROWT _ (uh HBA)) (uh HS0) (uh HNODE _ (uh HBA)) rfl (uh HCELL) (fun u hu=>by simp at hu; subst hu; rfl) (Nat.le_trans (uh HWCZ) (uh HBA).size) (by simp) ?_)
       intro v' w5 hW5 hg5 hown5
       have HW5:=hide hW5
       have HB5:Hid (Below w.heap.size w w5):=(below_next (uh HBWC) (uh HBA)).grown hg5 (Nat.le_trans (uh HWCZ) (uh HBA).size) hown5
       clear hW5 hg5 hown5 HNODE HROWT HCELL
       go_wp2
       go_roundw
       case rel=>exact⟨j+1,_,by omega,by go_num,HW5,uh HB5,HRUN,by simp⟩
       case measure=>simp[intOf]; omega
   ·skip
    have HBR:Hid (Below w.heap.size w (wr.alloc (Obj.cells #[.int .i64 k,.int .i64 n,.string s,.bool root,.slice qx qy qz] 37 (0,0)))):=below_next (uh HB) (alloc_b _ _)
    go_wp2_with fail
    refine (uh HPT _).mono ?_
    rintro e w1 ⟨rfl,rfl⟩
    clear d0 d1 d2 d3 d4 HPT
    by_cases hpl:st.length < p
    ·have hplI:(st.length:Int) - (p:Int) < 0:=by omega
     have HV:=hide (uh HNO (uh HFEW hpl))
     clear HNO HYES HFEW HBAD HFIT HGF HST hW HIB
     go_wp2
     go_ret2
     exact⟨_,by rw[uh HV]; rfl,uh HBR,⟨_,rfl⟩,fun c hc=>by rw[uh HV] at hc; cases hc⟩
    obtain⟨r,hr⟩ : ∃ r,st.length=r+p:=⟨st.length - p,by omega⟩
    have hre:(st.length:Int) - (p:Int)=(r:Int):=by omega
    have hr0:¬ (r:Int) < 0:=by omega
    have hr1:(r:Int)≤(st.length:Int):=by omega
    have hr2:(0:Int)≤(r:Int):=by omega
    have hnI:(st.length:Int)≤(cap:Int):=by omega
    have hcI:(cap:Int)≤9223372036854775807:=by unfold maxLen at hcm; omega
    have HFT:=hide (uh HFIT r hr)
    have HR:=hide hr
    have HGL:Hid (g < wr.heap.size):=hgl
    clear hr hgl
    clear HFIT HFEW hpl
    have HG2:=hide (uh HGF _ (alloc_b wr (Obj.cells #[.int .i64 k,.int .i64 n,.string s,.bool root,.slice qx qy qz] 37 (0,0))))
    clear HGF
    go_wp2_with fail
    refine (uh HG2).mono ?_
    rintro e w2 ⟨rfl,b2⟩
    have HB2:Hid (Below wr.heap.size wr w2):=below_next (alloc_b wr _) b2
    have HBW2:Hid (Below w.heap.size w w2):=below_next (uh HB) (uh HB2)
    have HC6:Hid (∀ w',Below w2.heap.size w2 w'→w'.cell? ⟨wr.heap.size,0,none⟩=some (.int .i64 k)∧w'.cell? ⟨wr.heap.size,1,none⟩=some (.int .i64 n)∧w'.cell? ⟨wr.heap.size,2,none⟩=some (.string s)∧w'.cell? ⟨wr.heap.size,3,none⟩=some (.bool root)∧w'.cell? ⟨wr.heap.size,4,none⟩=some (.slice qx qy qz)):=fun w' hb=>by
     have h0:=heap_alloc_new wr (Obj.cells #[.int .i64 k,.int .i64 n,.string s,.bool root,.slice qx qy qz] 37 (0,0))
     have h1:=(b2.block _ (Array.getElem?_eq_some_iff.1 h0).1).trans h0
     have h2:=(hb.block _ (Array.getElem?_eq_some_iff.1 h1).1).trans h1
     exact⟨Lib.cell_of_heap h2 0,Lib.cell_of_heap h2 1,Lib.cell_of_heap h2 2,Lib.cell_of_heap h2 3,Lib.cell_of_heap h2 4⟩
    have HW2:Hid (WRow (condK j) w2 (·∈bl) w.heap.size (.slice (some ⟨g,0,none⟩) st.length cap) st):=(uh hW).keep (uh HB2)
    have HST2:Hid (ORow stepE w2 (.slice qx qy qz) steps ib):=(uh HST).below (uh HB2)
    clear b2 HG2 hW HST HBR
    have HGL:Hid (g < w2.heap.size):=Nat.lt_of_lt_of_le (uh HGL) (uh HB2).size
    cases hf:fopOk ⟨k,n,s,root,steps⟩ with
    | false=>
     have HV:=hide (uh HNO (uh HBAD hf))
     have HBR:=HBW2
     clear HNO HYES HBAD HFT HC6 HW2 HST2 HIB hf
     go_wp2
     go_ret2
     exact⟨_,by rw[uh HV]; rfl,uh HBR,⟨_,rfl⟩,fun c hc=>by rw[uh HV] at hc; cases hc⟩
    | true=>
     have HFT2:=hide (uh HFT hf)
     clear HFT HBAD hf
     go_upto_region 10 with fail
     go_cut [8] from 31 to 37 (fun x wx=>∃ (b:Nat) (pa:Value),x = .pointer (some ⟨b,0,none⟩)∧wx.heap[b]?=some (.cells #[.int .i64 k,.int .i64 n,.string s,.bool root,.slice qx qy qz,pa] 132 (0,0))∧w2.heap.size≤b∧LRow (condK j) wx (Hd (·∈bl) w.heap.size (some g)) pa (st.drop r)∧Below w2.heap.size w2 wx)
     case first=>
      have SD:=hide (uh HC6 w2.drew (Below.refl _ _).drew)
      obtain⟨cls,HCE,HCO,HCC⟩ : ∃ cls:List Value,Hid (cls.length=st.length - r∧Els (condK j) w2 (Hd (·∈bl) w.heap.size (some g)) (cls.map fun u=>[u]) (st.drop r))∧Hid (∀ u∈cls,u.oneCell'=true)∧Hid (∀ (jj:Nat) (u:Value),cls[jj]?=some u→w2.drew.cell? ((⟨g,r,none⟩ : Addr).add jj)=some u):=drop_vals (uh HW2) (by have:=uh HR; omega)
      have HBD:Hid (Below w2.heap.size w2 w2.drew):=(Below.refl _ _).drew
      obtain⟨AD,hif,HCL⟩ : ∃ AD:Addr,(if cap=r then some (⟨g,0,none⟩ : Addr) else some ⟨g,r,none⟩)=some AD∧Hid (Calls Tryz.prog 80 #[.slice (some AD) (st.length - r) (cap - r)] w2.drew fun e w'=>∃ ra rn rc,e = .returned (.slice ra rn rc)∧w'.ownsRow w2.drew.heap.size 84 1 (.slice ra rn rc) cls.length cls∧Below w2.drew.heap.size w2.drew w'):=by
       by_cases hrc:cap=r
       ·have h0:cls=[]:=List.eq_nil_of_length_eq_zero (by have:=(uh HCE).1; omega)
        subst h0
        refine⟨⟨g,0,none⟩,if_pos hrc,?_⟩
        rw[show st.length - r=0 by omega]
        exact (cloneC_walk ⟨g,0,none⟩ _ [] w2.drew (fun _ _ h=>by simp at h) (fun _ h=>by simp at h) (by simp)).mono fun e w' h=>own_parts h
       ·refine⟨⟨g,r,none⟩,if_neg hrc,?_⟩
        rw[← (uh HCE).1]
        exact (cloneC_walk ⟨g,r,none⟩ _ cls w2.drew (uh HCC) (uh HCO) (by have:=(uh HCE).1; omega)).mono fun e w' h=>own_parts h
      clear HNO HYES HFT2 HCC HCO
      go_region_held3 (fun w'=>w'.cell? ⟨wr.heap.size,0,none⟩=some (.int .i64 k)∧w'.cell? ⟨wr.heap.size,1,none⟩=some (.int .i64 n)∧w'.cell? ⟨wr.heap.size,2,none⟩=some (.string s)∧w'.cell? ⟨wr.heap.size,3,none⟩=some (.bool root)∧w'.cell? ⟨wr.heap.size,4,none⟩=some (.slice qx qy qz)) (first | exact uh SD | exact uh S3 | exact uh HC6 _ (below_next (uh HB3) (alloc_b _ _))) (first | (go_simp; refine (uh HCL).mono ?_; rintro e w3 ⟨ra,rn,rc,rfl,o3,b3⟩; have HO3:=hide o3; have HB3:=hide (below_next (uh HBD) b3); have S3:=hide (uh HC6 w3 (uh HB3)); clear HCL o3 b3))
      all_goals
       go_wp2
       go_meet
       case rel=>exact⟨_,_,rfl,heap_alloc_new _ _,(uh HB3).size,lrow_own (own_below (uh HO3) (alloc_b _ _)) ((uh HCE).2.move (.below (below_next (uh HB3) (alloc_b _ _)))) (fun b hb=>.inr ⟨Nat.le_trans (uh HBW2).size hb,fun e=>by injection e with e; have:=uh HGL; have hb2:w2.heap.size≤b:=hb; omega⟩),below_next (uh HB3) (alloc_b _ _)⟩
     case rest=>
      obtain⟨b,pa,rfl,hbk,hbb,hlr,hbc⟩:=hcut
      have HBC:=hide hbc
      have HPF:=hide (partsFit_walk b k _ _ _ _ pa (st.drop r) wc hbk hlr (by rw[List.length_drop]; have:=uh HR; omega))
      have HNODE:Hid (∀ w',Below wc.heap.size wc w'→(condK (j+1)).R w' (Hd (·∈bl) w.heap.size (some g)) [.pointer (some ⟨b,0,none⟩)] (.mk ⟨k,n,s,root,steps⟩ (st.drop r))):=fun w' hx=>by
       refine (condK (j+1)).move (w:=wc) ⟨b,_,pa,ib,rfl,.inr ⟨Nat.le_trans (uh HBW2).size hbb,?_⟩,hbk,(uh HST2).below hbc,fun x hx=>.inl (uh HIB x hx),hlr⟩ (.below hx)
       intro e; injection e with e; have:=uh HGL; omega
      have HROWT:Hid (∀ w',Below wc.heap.size wc w'→WRow (condK (j+1)) w' (·∈bl) w.heap.size (.slice (some ⟨g,0,none⟩) r cap) (st.take r)):=fun w' hx=>by
       exact ((((uh HW2).keep hbc).keep hx).take rfl (by have:=uh HR; omega)).imp (by rw[condK_T,condK_T]) (by rw[condK_wd,condK_wd]) (condK_up j)
      have HBWC:Hid (Below w.heap.size w wc):=below_next (uh HBW2) hbc
      have hwcz:w.heap.size≤wc.heap.size:=(uh HBWC).size
      have HWCZ:=hide hwcz
      clear hbk hbb hlr hbc HBC HC6 HW2 HST2 HIB hwcz
      go_wp2_with fail
      refine (uh HPF).mono ?_
      rintro e w4 ⟨rfl,d4,rfl⟩
      have HD4:Hid (Below wc.heap.size wc (wc.drewN d4)):=⟨rfl,rfl,rfl,Nat.le_refl _,fun _ _=>rfl⟩
      cases hall:(st.drop r).all (fun c=>c.tru != (k == 9)) with
      | false=>
       have HV:Hid (condR ops=none):=uh HNO (by rw[uh HFT2,if_neg (by rw[hall]; simp)])
       have HBR:Hid (Below w.heap.size w (wc.drewN d4)):=below_next (uh HBWC) (uh HD4)
       clear HNO HYES HFT2 HPF HNODE HROWT hall
       go_wp2
       go_ret2
       exact⟨_,by rw[uh HV]; rfl,uh HBR,⟨_,rfl⟩,fun c hc=>by rw[uh HV] at hc; cases hc⟩
      | true=>
       have HRUN:Hid (runT (ops.take (j+1)) []=some ((st.take r)++[.mk ⟨k,n,s,root,steps⟩ (st.drop r)])):=uh HYES _ (by rw[uh HFT2,if_pos hall])
       have HCELL:Hid (∀ (i:Nat) (u:Value),[Value.pointer (some ⟨b,0,none⟩)][i]?=some u→((wc.drewN d4).alloc (.cells #[.pointer (some ⟨b,0,none⟩)] 84)).cell? ((⟨wc.heap.size,0,none⟩ : Addr).add i)=some u):=fun i u hu=>litK_cells (wc.drewN d4) _ _ i u hu
       have HBA:Hid (Below wc.heap.size wc ((wc.drewN d4).alloc (.cells #[.pointer (some ⟨b,0,none⟩)] 84))):=below_next (uh HD4) (alloc_b _ _)
       clear HNO HYES HFT2 HPF hall
       go_wp2_with (at_builtin; refine wpList_append_K (condK (j+1)) Tryz.underlying128 infoCondP rfl (by decide) rfl (.tmp 43) (.tmp 45) rfl rfl (uh HROWT _ (uh HBA)) (uh HS0) (uh HNODE _ (uh HBA)) rfl (uh HCELL) (fun u hu=>by simp at hu; subst hu; rfl) (Nat.le_trans (uh HWCZ) (uh HBA).size) (by simp; omega) ?_)
       intro v' w5 hW5 hg5 hown5
       have HW5:=hide hW5
       have HB5:Hid (Below w.heap.size w w5):=(below_next (uh HBWC) (uh HBA)).grown hg5 (Nat.le_trans (uh HWCZ) (uh HBA).size) hown5
       clear hW5 hg5 hown5 HNODE HROWT HCELL
       go_wp2
       go_roundw
       case rel=>exact⟨j+1,_,by omega,by go_num,HW5,uh HB5,HRUN,by simp; omega⟩
       case measure=>simp[intOf]; omega
  ·have hjl:j=ops.length:=by omega
   subst hjl
   have HD:=hide (uh HDONE st (uh hrun))
   have HB:=hide hb
   clear HROW HDONE hrun hb hj hstl
   rcases (uh hW).form with ⟨rfl,rfl⟩ | ⟨g,cap,rfl,hnc,hcm,hBg,hgl⟩
   ·have HV:Hid (condR ops=none):=uh HD
    have HBR:=HB
    clear hW HD
    go_wp2
    go_ret2
    exact⟨_,by rw[uh HV]; rfl,uh HBR,⟨_,rfl⟩,fun c hc=>by rw[uh HV] at hc; cases hc⟩
   ·by_cases h1:(st.length:Int)=1
    ·obtain⟨cc,rfl⟩ : ∃ cc,st=[cc]:=by
      match st,h1 with
      | [cc],_=>exact⟨cc,rfl⟩
      | [],h=>simp at h
      | _ :: _ :: _,h=>simp at h; omega
     obtain⟨vs,hR,hcell⟩:=(uh hW).at (j:=0) (x:=cc) rfl
     obtain⟨b,st0,pa,rfl,-,hbk,-⟩:=condK_cells hR
     have c0:=hcell 0 _ rfl
     rw[condK_wd] at c0
     simp only[Nat.zero_mul,Nat.zero_add] at c0
     have HIT:=hide (isTruth_walk _ _ wr hR)
     have HR:=hide hR
     clear hR hcell hbk hW
     go_wp2_with fail
     refine (uh HIT).mono ?_
     rintro e w1 ⟨rfl,rfl⟩
     clear HIT
     cases ht:cc.tru with
     | false=>
      have HV:Hid (condR ops=none):=by show _=_; rw[uh HD]; simp[ht]
      have HBR:=HB
      clear HD ht
      go_wp2
      go_ret2
      exact⟨_,by rw[uh HV]; rfl,uh HBR,⟨_,rfl⟩,fun c hc=>by rw[uh HV] at hc; cases hc⟩
     | true=>
      have HV:Hid (condR ops=some cc):=by show _=_; rw[uh HD]; simp[ht]
      clear HD ht
      go_wp2
      go_ret2
      refine⟨_,by rw[uh HV]; rfl,uh HB,⟨_,rfl⟩,fun c hc=>?_⟩
      rw[uh HV] at hc
      injection hc with hc
      subst hc
      exact⟨_,(condK _).move (uh HR) (.sub fun b hb _=>by rcases hb with hb | hb; exact .inl hb; exact .inr hb.1)⟩
    ·have h1b:((st.length:Int) != 1)=true:=by simpa using h1
     have HV:Hid (condR ops=none):=by
      show _=_
      rw[uh HD]
      match st,h1 with
      | [],_=>rfl
      | [_],h=>exact absurd rfl h
      | _ :: _ :: _,_=>rfl
     have HBR:=HB
     clear HD hW
     go_wp2
     go_ret2
     exact⟨_,by rw[uh HV]; rfl,uh HBR,⟨_,rfl⟩,fun c hc=>by rw[uh HV] at hc; cases hc⟩
theorem goodSel_walk (m:PSel) (v:Value) (bl:List Nat) (w:World) (h:TRow w v m.cond bl) (hs:szSel m≤1048576) :
  Calls Tryz.prog 53 #[.agg #[.int .i64 m.k,.string m.name,.bool m.hasA,.bool m.hasB,.bool m.hasC,.int .i64 m.a,.int .i64 m.b,.int .i64 m.c,v]] w fun e w'=>e = .returned (.bool (goodS m))∧Below w.heap.size w w':=by
 have HO:=hide h
 have HZ:=hide hs
 have hnz:m.name.size≤1048576:=by unfold szSel at hs; omega
 have hcz:m.cond.length≤1048576:=by unfold szSel szFops at hs; omega
 obtain⟨K,name,ha,hb,hc,a,b,c,cond⟩:=m
 simp only at *
 have HP:Hid (∀ w,Calls Tryz.prog 76 #[.string name] w fun e w'=>e = .returned (.bool (plainT name))∧w=w'):=fun w=>goodText_walk _ w hnz
 have HRa:Hid (∀ w,Calls Tryz.prog 77 #[.int .i64 a] w fun e w'=>e = .returned (.bool (rangeI a))∧w=w'):=fun w=>goodInt_walk _ w
 have HRb:Hid (∀ w,Calls Tryz.prog 77 #[.int .i64 b] w fun e w'=>e = .returned (.bool (rangeI b))∧w=w'):=fun w=>goodInt_walk _ w
 have HRc:Hid (∀ w,Calls Tryz.prog 77 #[.int .i64 c] w fun e w'=>e = .returned (.bool (rangeI c))∧w=w'):=fun w=>goodInt_walk _ w
 have HB:Hid (∀ o,Below w.heap.size w (w.alloc o)):=fun o=>alloc_b w o
 obtain⟨ad,cp,rfl,hxa⟩:=h.form
 have HXA:=hide hxa
 have hczI:(cond.length:Int)≤1048576:=by omega
 clear h hs hnz hcz hxa
 have HA:Hid (goodS ⟨K,name,ha,hb,hc,a,b,c,cond⟩=(decide (1≤K) && decide (K≤5) && plainT name && rangeI a && rangeI b && rangeI c && selB ⟨K,name,ha,hb,hc,a,b,c,cond⟩)):=rfl
 generalize goodS ⟨K,name,ha,hb,hc,a,b,c,cond⟩=SO at *
 by_cases k1':K < 1
 ·have k1:¬ 1≤K:=by omega
  have HV:Hid (SO=false):=by show _=_; rw[uh HA]; simp[k1]
  clear HA HO HXA HZ
  go_enter Tryz.func53,Tryz.ntmps53; simp only[List.append_eq,List.cons_append,List.nil_append]
  go_wp2
  go_ret
  exact⟨by rw[uh HV]; rfl,uh HB _⟩
 by_cases k5':5 < K
 ·have k5:¬ K≤5:=by omega
  have k1:1≤K:=by omega
  have HV:Hid (SO=false):=by show _=_; rw[uh HA]; simp[k5]
  clear HA HO HXA HZ
  go_enter Tryz.func53,Tryz.ntmps53; simp only[List.append_eq,List.cons_append,List.nil_append]
  go_wp2
  go_ret
  exact⟨by rw[uh HV]; rfl,uh HB _⟩
 have k1:1≤K:=by omega
 have k5:K≤5:=by omega
 go_enter Tryz.func53,Tryz.ntmps53; simp only[List.append_eq,List.cons_append,List.nil_append]
 go_wp2_with fail
 refine (uh HP _).mono ?_
 rintro e w1 ⟨rfl,rfl⟩
 cases hp:plainT name with
 | false=>
  have HV:Hid (SO=false):=by show _=_; rw[uh HA]; simp[hp]
  clear HA HO HXA HZ
  go_wp2
  go_ret
  exact⟨by rw[uh HV]; rfl,uh HB _⟩
 | true=>
  go_wp2_with fail
  refine (uh HRa _).mono ?_
  rintro e w1 ⟨rfl,rfl⟩
  cases har:rangeI a with
  | false=>
   have HV:Hid (SO=false):=by show _=_; rw[uh HA]; simp[har]
   clear HA HO HXA HZ
   go_wp2
   go_ret
   exact⟨by rw[uh HV]; rfl,uh HB _⟩
  | true=>
   go_wp2_with fail
   refine (uh HRb _).mono ?_
   rintro e w1 ⟨rfl,rfl⟩
   cases hbr:rangeI b with
   | false=>
    have HV:Hid (SO=false):=by show _=_; rw[uh HA]; simp[hbr]
    clear HA HO HXA HZ
    go_wp2
    go_ret
    exact⟨by rw[uh HV]; rfl,uh HB _⟩
   | true=>
    go_wp2_with fail
    refine (uh HRc _).mono ?_
    rintro e w1 ⟨rfl,rfl⟩
    cases hcr:rangeI c with
    | false=>
     have HV:Hid (SO=false):=by show _=_; rw[uh HA]; simp[hcr]
     clear HA HO HXA HZ
     go_wp2
     go_ret
     exact⟨by rw[uh HV]; rfl,uh HB _⟩
    | true=>
     have HS:Hid (SO=(selB ⟨K,name,ha,hb,hc,a,b,c,cond⟩)):=by show _=_; rw[uh HA,hp,har,hbr,hcr,decide_eq_true k1,decide_eq_true k5]; rfl
     clear HA HP HRa HRb HRc hp har hbr hcr
     rcases (show K=1∨K=2∨K=3∨K=4∨K=5 by omega) with rfl | rfl | rfl | rfl | rfl
     ·clear k1 k5 k1' k5'
      cases ha with
      | true=>
       have HV:Hid (SO=false):=by show _=_; rw[uh HS]; simp[selB]
       clear HS
       go_wp2
       go_ret
       exact⟨by rw[uh HV]; rfl,uh HB _⟩
      | false=>
       cases hb with
       | true=>
        have HV:Hid (SO=false):=by show _=_; rw[uh HS]; simp[selB]
        clear HS
        go_wp2
        go_ret
        exact⟨by rw[uh HV]; rfl,uh HB _⟩
       | false=>
        cases hc with
        | true=>
         have HV:Hid (SO=false):=by show _=_; rw[uh HS]; simp[selB]
         clear HS
         go_wp2
         go_ret
         exact⟨by rw[uh HV]; rfl,uh HB _⟩
        | false=>
         by_cases na:a=0
         ·subst na
          by_cases nb:b=0
          ·subst nb
           by_cases nc:c=0
           ·subst nc
            have HV:Hid (SO=decide ((cond.length:Int)=0)):=by show _=_; rw[uh HS]; simp[selB]
            clear HS HO HXA HZ
            go_wp2
            go_ret
            exact⟨by rw[uh HV]; rfl,uh HB _⟩
           ·skip
            have nc1:(c != 0)=true:=by simp[nc]
            have nc2:(c == 0)=false:=by simp[nc]
            have HV:Hid (SO=false):=by show _=_; rw[uh HS]; simp[selB,nc]
            clear HS
            go_wp2
            go_ret
            exact⟨by rw[uh HV]; rfl,uh HB _⟩
          ·skip
           have nb1:(b != 0)=true:=by simp[nb]
           have nb2:(b == 0)=false:=by simp[nb]
           have HV:Hid (SO=false):=by show _=_; rw[uh HS]; simp[selB,nb]
           clear HS
           go_wp2
           go_ret
           exact⟨by rw[uh HV]; rfl,uh HB _⟩
         ·skip
          have na1:(a != 0)=true:=by simp[na]
          have na2:(a == 0)=false:=by simp[na]
          have HV:Hid (SO=false):=by show _=_; rw[uh HS]; simp[selB,na]
          clear HS
          go_wp2
          go_ret
          exact⟨by rw[uh HV]; rfl,uh HB _⟩
     ·clear k1 k5 k1' k5'
      cases he:name.toList.isEmpty with
      | false=>
       have HV:Hid (SO=false):=by show _=_; rw[uh HS]; simp[selB,empT,he]
       clear HS
       go_wp2
       go_ret
       exact⟨by rw[uh HV]; rfl,uh HB _⟩
      | true=>
       cases ha with
       | true=>
        have HV:Hid (SO=false):=by show _=_; rw[uh HS]; simp[selB,empT,he]
        clear HS
        go_wp2
        go_ret
        exact⟨by rw[uh HV]; rfl,uh HB _⟩
       | false=>
        cases hb with
        | true=>
         have HV:Hid (SO=false):=by show _=_; rw[uh HS]; simp[selB,empT,he]
         clear HS
         go_wp2
         go_ret
         exact⟨by rw[uh HV]; rfl,uh HB _⟩
        | false=>
         cases hc with
         | true=>
          have HV:Hid (SO=false):=by show _=_; rw[uh HS]; simp[selB,empT,he]
          clear HS
          go_wp2
          go_ret
          exact⟨by rw[uh HV]; rfl,uh HB _⟩
         | false=>
          by_cases na:a=0
          ·subst na
           by_cases nb:b=0
           ·subst nb
            by_cases nc:c=0
            ·subst nc
             have HV:Hid (SO=decide ((cond.length:Int)=0)):=by show _=_; rw[uh HS]; simp[selB,empT,he]
             clear HS HO HXA HZ
             go_wp2
             go_ret
             exact⟨by rw[uh HV]; rfl,uh HB _⟩
            ·skip
             have nc1:(c != 0)=true:=by simp[nc]
             have nc2:(c == 0)=false:=by simp[nc]
             have HV:Hid (SO=false):=by show _=_; rw[uh HS]; simp[selB,empT,he,nc]
             clear HS
             go_wp2
             go_ret
             exact⟨by rw[uh HV]; rfl,uh HB _⟩
           ·skip
            have nb1:(b != 0)=true:=by simp[nb]
            have nb2:(b == 0)=false:=by simp[nb]
            have HV:Hid (SO=false):=by show _=_; rw[uh HS]; simp[selB,empT,he,nb]
            clear HS
            go_wp2
            go_ret
            exact⟨by rw[uh HV]; rfl,uh HB _⟩
          ·skip
           have na1:(a != 0)=true:=by simp[na]
           have na2:(a == 0)=false:=by simp[na]
           have HV:Hid (SO=false):=by show _=_; rw[uh HS]; simp[selB,empT,he,na]
           clear HS
           go_wp2
           go_ret
           exact⟨by rw[uh HV]; rfl,uh HB _⟩
     ·clear k1 k5 k1' k5'
      cases he:name.toList.isEmpty with
      | false=>
       have HV:Hid (SO=false):=by show _=_; rw[uh HS]; simp[selB,empT,he]
       clear HS
       go_wp2
       go_ret
       exact⟨by rw[uh HV]; rfl,uh HB _⟩
      | true=>
       cases ha with
       | true=>
        have HV:Hid (SO=false):=by show _=_; rw[uh HS]; simp[selB,empT,he]
        clear HS
        go_wp2
        go_ret
        exact⟨by rw[uh HV]; rfl,uh HB _⟩
       | false=>
        cases hb with
        | true=>
         have HV:Hid (SO=false):=by show _=_; rw[uh HS]; simp[selB,empT,he]
         clear HS
         go_wp2
         go_ret
         exact⟨by rw[uh HV]; rfl,uh HB _⟩
        | false=>
         cases hc with
         | true=>
          have HV:Hid (SO=false):=by show _=_; rw[uh HS]; simp[selB,empT,he]
          clear HS
          go_wp2
          go_ret
          exact⟨by rw[uh HV]; rfl,uh HB _⟩
         | false=>
          by_cases nb:b=0
          ·subst nb
           by_cases nc:c=0
           ·subst nc
            have HV:Hid (SO=decide ((cond.length:Int)=0)):=by show _=_; rw[uh HS]; simp[selB,empT,he]
            clear HS HO HXA HZ
            go_wp2
            go_ret
            exact⟨by rw[uh HV]; rfl,uh HB _⟩
           ·skip
            have nc1:(c != 0)=true:=by simp[nc]
            have nc2:(c == 0)=false:=by simp[nc]
            have HV:Hid (SO=false):=by show _=_; rw[uh HS]; simp[selB,empT,he,nc]
            clear HS
            go_wp2
            go_ret
            exact⟨by rw[uh HV]; rfl,uh HB _⟩
          ·skip
           have nb1:(b != 0)=true:=by simp[nb]
           have nb2:(b == 0)=false:=by simp[nb]
           have HV:Hid (SO=false):=by show _=_; rw[uh HS]; simp[selB,empT,he,nb]
           clear HS
           go_wp2
           go_ret
           exact⟨by rw[uh HV]; rfl,uh HB _⟩
     ·clear k1 k5 k1' k5'
      cases he:name.toList.isEmpty with
      | false=>
       have HV:Hid (SO=false):=by show _=_; rw[uh HS]; simp[selB,empT,he]
       clear HS
       go_wp2
       go_ret
       exact⟨by rw[uh HV]; rfl,uh HB _⟩
      | true=>
       cases ha with
       | true=>
        cases hb with
        | true=>
         cases hc with
         | true=>
          have HV:Hid (SO=decide ((cond.length:Int)=0)):=by show _=_; rw[uh HS]; simp[selB,empT,he]
          clear HS HO HXA HZ
          go_wp2
          go_ret
          exact⟨by rw[uh HV]; rfl,uh HB _⟩
         | false=>
          by_cases nc:c=0
          ·subst nc
           have HV:Hid (SO=decide ((cond.length:Int)=0)):=by show _=_; rw[uh HS]; simp[selB,empT,he]
           clear HS HO HXA HZ
           go_wp2
           go_ret
           exact⟨by rw[uh HV]; rfl,uh HB _⟩
          ·skip
           have nc1:(c != 0)=true:=by simp[nc]
           have nc2:(c == 0)=false:=by simp[nc]
           have HV:Hid (SO=false):=by show _=_; rw[uh HS]; simp[selB,empT,he,nc]
           clear HS
           go_wp2
           go_ret
           exact⟨by rw[uh HV]; rfl,uh HB _⟩
        | false=>
         by_cases nb:b=0
         ·subst nb
          cases hc with
          | true=>
           have HV:Hid (SO=decide ((cond.length:Int)=0)):=by show _=_; rw[uh HS]; simp[selB,empT,he]
           clear HS HO HXA HZ
           go_wp2
           go_ret
           exact⟨by rw[uh HV]; rfl,uh HB _⟩
          | false=>
           by_cases nc:c=0
           ·subst nc
            have HV:Hid (SO=decide ((cond.length:Int)=0)):=by show _=_; rw[uh HS]; simp[selB,empT,he]
            clear HS HO HXA HZ
            go_wp2
            go_ret
            exact⟨by rw[uh HV]; rfl,uh HB _⟩
           ·skip
            have nc1:(c != 0)=true:=by simp[nc]
            have nc2:(c == 0)=false:=by simp[nc]
            have HV:Hid (SO=false):=by show _=_; rw[uh HS]; simp[selB,empT,he,nc]
            clear HS
            go_wp2
            go_ret
            exact⟨by rw[uh HV]; rfl,uh HB _⟩
         ·skip
          have nb1:(b != 0)=true:=by simp[nb]
          have nb2:(b == 0)=false:=by simp[nb]
          have HV:Hid (SO=false):=by show _=_; rw[uh HS]; simp[selB,empT,he,nb]
          clear HS
          go_wp2
          go_ret
          exact⟨by rw[uh HV]; rfl,uh HB _⟩
       | false=>
        by_cases na:a=0
        ·subst na
         cases hb with
         | true=>
          cases hc with
          | true=>
           have HV:Hid (SO=decide ((cond.length:Int)=0)):=by show _=_; rw[uh HS]; simp[selB,empT,he]
           clear HS HO HXA HZ
           go_wp2
           go_ret
           exact⟨by rw[uh HV]; rfl,uh HB _⟩
          | false=>
           by_cases nc:c=0
           ·subst nc
            have HV:Hid (SO=decide ((cond.length:Int)=0)):=by show _=_; rw[uh HS]; simp[selB,empT,he]
            clear HS HO HXA HZ
            go_wp2
            go_ret
            exact⟨by rw[uh HV]; rfl,uh HB _⟩
           ·skip
            have nc1:(c != 0)=true:=by simp[nc]
            have nc2:(c == 0)=false:=by simp[nc]
            have HV:Hid (SO=false):=by show _=_; rw[uh HS]; simp[selB,empT,he,nc]
            clear HS
            go_wp2
            go_ret
            exact⟨by rw[uh HV]; rfl,uh HB _⟩
         | false=>
          by_cases nb:b=0
          ·subst nb
           cases hc with
           | true=>
            have HV:Hid (SO=decide ((cond.length:Int)=0)):=by show _=_; rw[uh HS]; simp[selB,empT,he]
            clear HS HO HXA HZ
            go_wp2
            go_ret
            exact⟨by rw[uh HV]; rfl,uh HB _⟩
           | false=>
            by_cases nc:c=0
            ·subst nc
             have HV:Hid (SO=decide ((cond.length:Int)=0)):=by show _=_; rw[uh HS]; simp[selB,empT,he]
             clear HS HO HXA HZ
             go_wp2
             go_ret
             exact⟨by rw[uh HV]; rfl,uh HB _⟩
            ·skip
             have nc1:(c != 0)=true:=by simp[nc]
             have nc2:(c == 0)=false:=by simp[nc]
             have HV:Hid (SO=false):=by show _=_; rw[uh HS]; simp[selB,empT,he,nc]
             clear HS
             go_wp2
             go_ret
             exact⟨by rw[uh HV]; rfl,uh HB _⟩
          ·skip
           have nb1:(b != 0)=true:=by simp[nb]
           have nb2:(b == 0)=false:=by simp[nb]
           have HV:Hid (SO=false):=by show _=_; rw[uh HS]; simp[selB,empT,he,nb]
           clear HS
           go_wp2
           go_ret
           exact⟨by rw[uh HV]; rfl,uh HB _⟩
        ·skip
         have na1:(a != 0)=true:=by simp[na]
         have na2:(a == 0)=false:=by simp[na]
         have HV:Hid (SO=false):=by show _=_; rw[uh HS]; simp[selB,empT,he,na]
         clear HS
         go_wp2
         go_ret
         exact⟨by rw[uh HV]; rfl,uh HB _⟩
     ·clear k1 k5 k1' k5'
      cases he:name.toList.isEmpty with
      | false=>
       have HV:Hid (SO=false):=by show _=_; rw[uh HS]; simp[selB,empT,he]
       clear HS
       go_wp2
       go_ret
       exact⟨by rw[uh HV]; rfl,uh HB _⟩
      | true=>
       cases ha with
       | true=>
        have HV:Hid (SO=false):=by show _=_; rw[uh HS]; simp[selB,empT,he]
        clear HS
        go_wp2
        go_ret
        exact⟨by rw[uh HV]; rfl,uh HB _⟩
       | false=>
        cases hb with
        | true=>
         have HV:Hid (SO=false):=by show _=_; rw[uh HS]; simp[selB,empT,he]
         clear HS
         go_wp2
         go_ret
         exact⟨by rw[uh HV]; rfl,uh HB _⟩
        | false=>
         cases hc with
         | true=>
          have HV:Hid (SO=false):=by show _=_; rw[uh HS]; simp[selB,empT,he]
          clear HS
          go_wp2
          go_ret
          exact⟨by rw[uh HV]; rfl,uh HB _⟩
         | false=>
          by_cases na:a=0
          ·subst na
           by_cases nb:b=0
           ·subst nb
            by_cases nc:c=0
            ·subst nc
             have HV:Hid (SO=true):=by show _=_; rw[uh HS]; simp[selB,empT,he]
             clear HS HO HXA HZ
             go_wp2
             go_ret
             exact⟨by rw[uh HV]; rfl,uh HB _⟩
            ·skip
             have nc1:(c != 0)=true:=by simp[nc]
             have nc2:(c == 0)=false:=by simp[nc]
             have HV:Hid (SO=false):=by show _=_; rw[uh HS]; simp[selB,empT,he,nc]
             clear HS
             go_wp2
             go_ret
             exact⟨by rw[uh HV]; rfl,uh HB _⟩
           ·skip
            have nb1:(b != 0)=true:=by simp[nb]
            have nb2:(b == 0)=false:=by simp[nb]
            have HV:Hid (SO=false):=by show _=_; rw[uh HS]; simp[selB,empT,he,nb]
            clear HS
            go_wp2
            go_ret
            exact⟨by rw[uh HV]; rfl,uh HB _⟩
          ·skip
           have na1:(a != 0)=true:=by simp[na]
           have na2:(a == 0)=false:=by simp[na]
           have HV:Hid (SO=false):=by show _=_; rw[uh HS]; simp[selB,empT,he,na]
           clear HS
           go_wp2
           go_ret
           exact⟨by rw[uh HV]; rfl,uh HB _⟩
end Go.Proofs.YtkjcgkfejdogbaaGreatDoor
