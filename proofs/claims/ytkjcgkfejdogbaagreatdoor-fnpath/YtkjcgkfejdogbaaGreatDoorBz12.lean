import Derived.Deep.CutRange
import Derived.Test.YtkjcgkfejdogbaaGreatDoorBz11
import Derived.Test.YtkjcgkfejdogbaaGreatDoorBz5
set_option maxRecDepth 100000
set_option maxHeartbeats 8000000
namespace Go.Proofs.YtkjcgkfejdogbaaGreatDoor
open Go.RowKit
def tailOk (o:PFOp) : Bool:=(o.k == 2 || empT o.s) && numOk o.k o.n && plainT o.s
theorem fop_tail {o:PFOp} (hk:1≤o.k∧o.k≤12) (hn:¬ 1000 < o.steps.length) (hr:isRefK o.k=true∨(o.root=false∧o.steps.length=0)) : fopOk o=(o.steps.all stepOk && tailOk o):=by
 unfold fopOk tailOk
 have h1:(isRefK o.k || (!o.root && decide (o.steps.length=0)))=true:=by
  rcases hr with h | ⟨h,h'⟩
  ·simp[h]
  ·simp[h,h']
 rw[h1,decide_eq_true hk.1,decide_eq_true hk.2,decide_eq_true (show o.steps.length≤1000 by omega)]
 simp only[Bool.true_and,Bool.and_assoc]
theorem fopOk_main (m:PFOp) (v:Value) (bl:List Nat) (w:World) (h:ORow stepE w v m.steps bl) (hk:1≤m.k∧m.k≤12) (hn:¬ 1000 < m.steps.length) (hr:isRefK m.k=true∨(m.root=false∧m.steps.length=0)) (hs:m.s.size≤1048576) (hns:∀ p∈m.steps,p.name.size≤1048576) :
  Calls Tryz.prog 31 #[.agg #[.int .i64 m.k,.int .i64 m.n,.string m.s,.bool m.root,v]] w fun e w'=>e = .returned (.bool (fopOk m))∧Below w.heap.size w w':=by
 have HF:=hide (fop_tail hk hn hr)
 have HR:Hid (∀ w,Calls Tryz.prog 30 #[.int .i64 m.n] w fun e w'=>e = .returned (.bool (rangeI m.n))∧w=w'):=fun w=>range_walk _ w
 have HP:Hid (∀ w,Calls Tryz.prog 29 #[.string m.s] w fun e w'=>e = .returned (.bool (plainT m.s))∧w=w'):=fun w=>plain_walk _ w hs
 obtain⟨a,c,rfl,-,hxa⟩:=h.form
 have HROW:Hid (∀ (wr:World) (j:Nat) (hj:j < m.steps.length),Below w.heap.size w wr→∃ g,a=some ⟨g,0,none⟩∧wr.cell? ⟨g,j*3,none⟩=some (.bool m.steps[j].byI)∧wr.cell? ⟨g,j*3+1,none⟩=some (.string m.steps[j].name)∧wr.cell? ⟨g,j*3+2,none⟩=some (.int .i64 m.steps[j].idx) ∧
   Calls Tryz.prog 52 #[.agg #[.bool m.steps[j].byI,.string m.steps[j].name,.int .i64 m.steps[j].idx]] wr fun e w'=>e = .returned (.bool (stepOk m.steps[j]))∧Below wr.heap.size wr w'):=by
  intro wr j hj hb
  obtain⟨g,rfl⟩:=hxa (by omega)
  obtain⟨vs,ib,hE,hc,_⟩:=(h.below hb).at (List.getElem?_eq_getElem hj)
  obtain⟨rfl,_⟩:=hE
  exact⟨g,rfl,(hc 0 _ rfl).1,(hc 1 _ rfl).1,(hc 2 _ rfl).1,stepOk_walk _ wr (hns _ (List.getElem_mem hj))⟩
 have HNO:Hid (∀ j (hj:j < m.steps.length),stepOk m.steps[j]=false→fopOk m=false):=fun j hj e=>by rw[uh HF,all_no hj e]; rfl
 have HYES:Hid ((∀ j (hj:j < m.steps.length),stepOk m.steps[j]=true)→fopOk m=tailOk m):=fun e=>by rw[uh HF,all_yes e]; rfl
 have HT:Hid (tailOk m=((m.k == 2 || empT m.s) && numOk m.k m.n && plainT m.s)):=rfl
 have HPE:Hid (empT m.s=true→plainT m.s=true):=plain_emp
 have HB:Hid (∀ o,Below w.heap.size w (w.alloc o)):=fun o=>alloc_b w o
 obtain⟨k,n,s,r,st⟩:=m
 simp only at *
 have hnI:¬ (1000:Int) < (st.length:Int):=by omega
 clear h hxa HF hs hns
 generalize fopOk ⟨k,n,s,r,st⟩=FO at *
 generalize tailOk ⟨k,n,s,r,st⟩=TO at *
 obtain⟨BX,hBX⟩ : ∃ BX:World→Prop,BX=fun wr=>wr.heap[w.heap.size]?=some (Obj.cells #[.int .i64 k,.int .i64 n,.string s,.bool r,.slice a st.length c] 37 (0,0)):=⟨_,rfl⟩
 have HX0:Hid (BX (w.alloc (Obj.cells #[.int .i64 k,.int .i64 n,.string s,.bool r,.slice a st.length c] 37 (0,0)))):=by rw[hBX]; exact heap_alloc_new w _
 have HXN:Hid (∀ wr w',BX wr→Below wr.heap.size wr w'→BX w'):=by rw[hBX]; exact fun wr w' h hb=>(hb.block _ (Array.getElem?_eq_some_iff.1 h).1).trans h
 have HBX:Hid (∀ wr,BX wr→wr.cell? ⟨w.heap.size,0,none⟩=some (.int .i64 k)∧wr.cell? ⟨w.heap.size,1,none⟩=some (.int .i64 n)∧wr.cell? ⟨w.heap.size,2,none⟩=some (.string s)∧wr.cell? ⟨w.heap.size,4,none⟩=some (.slice a st.length c)):=by
  rw[hBX]; exact fun wr h=>⟨Lib.cell_of_heap h 0,Lib.cell_of_heap h 1,Lib.cell_of_heap h 2,Lib.cell_of_heap h 4⟩
 clear hBX
 have hk1:¬ k < 1:=by omega
 have hk2:¬ 12 < k:=by omega
 have hr0:isRefK k=true∨(isRefK k=false∧r=false∧¬ (0:Int) < (st.length:Int)):=by
  cases hq:isRefK k with
  | true=>exact .inl rfl
  | false=>
   rw[hq] at hr
   rcases hr with h | ⟨h,h'⟩
   ·cases h
   ·exact .inr ⟨rfl,h,by omega⟩
 have HR0:=hide hr0
 clear hr hk hn hr0
 go_enter Tryz.func31,Tryz.ntmps31
 go_upto_region 1 with fail
 go_cut [3] from 5 to 17 (fun x wx=>x = .bool (isRefK k)∧wx=w.alloc (Obj.cells #[.int .i64 k,.int .i64 n,.string s,.bool r,.slice a st.length c] 37 (0,0)))
 case first=>
  by_cases h6:k=6
  ·subst h6
   go_wp2
   go_meet
   case rel=>exact⟨rfl,rfl⟩
  ·by_cases h7:k=7
   ·subst h7
    go_wp2
    go_meet
    case rel=>exact⟨rfl,rfl⟩
   ·by_cases h8:k=8
    ·subst h8
     go_wp2
     go_meet
     case rel=>exact⟨rfl,rfl⟩
    ·go_wp2
     go_meet
     case rel=>exact⟨rfl,rfl⟩
 case rest=>
  obtain⟨rfl,hwc⟩:=hcut
  have HX1:Hid (BX wc):=by rw[hwc]; exact uh HX0
  have HB1:Hid (Below w.heap.size w wc):=by rw[hwc]; exact uh HB _
  obtain⟨c0,c1,c2,c4⟩:=uh HBX _ (uh HX1)
  have c3:wc.cell? ⟨w.heap.size,3,none⟩=some (.bool r):=by rw[hwc]; exact Lib.cell_of_heap (heap_alloc_new w _) 3
  clear hwc HX0
  rcases uh HR0 with hq | ⟨hq,rfl,hst0⟩
  all_goals
   rw[hq]
   clear hq
   go_wp2_with fail
   clear c0 c1 c2 c3 c4
   go_loopw [4] (fun iv wr=>∃ j:Nat,j≤st.length∧iv = .int .i64 (j:Int)∧Below w.heap.size w wr∧BX wr∧Hid (∀ i (hi:i < st.length),i < j→stepOk st[i]=true)) (fun iv _=>st.length - (intOf iv).toNat)
   case atStart=>exact⟨0,Nat.zero_le _,rfl,uh HB1,uh HX1,fun i _ hi=>by omega⟩
  ·case round=>
    obtain⟨j,hj,rfl,hb,hbx,hd⟩:=hrel
    obtain⟨c0,c1,c2,c4⟩:=uh HBX _ hbx
    by_cases hlt:j < st.length
    ·have hltI:(j:Int) < (st.length:Int):=by omega
     obtain⟨g,rfl,d0,d1,d2,hcall⟩:=uh HROW _ j hlt hb
     have HC:=hide hcall
     have HBW:=hide hb
     have HBXW:=hide hbx
     have HJY:Hid (stepOk st[j]=true→∀ i (hi:i < st.length),i < j+1→stepOk st[i]=true):=fun e i hi h=>by
      by_cases ei:i=j
      ·subst ei; exact e
      ·exact uh hd i hi (by omega)
     have HJN:Hid (stepOk st[j]=false→FO=false):=uh HNO j hlt
     clear hcall hb hbx hd HNO HROW HYES HT HPE HR HP c0 c1 c2
     generalize st[j]=P at *
     go_wp2_with fail
     refine (uh HC).mono ?_
     rintro e w1 ⟨rfl,b1⟩
     have HB2:=hide (below_next (uh HBW) b1)
     have HX2:=hide (uh HXN _ _ (uh HBXW) b1)
     clear HC b1 d0 d1 d2 c4 HBW HBXW
     cases hst:stepOk P with
     | true=>
      have HD:=hide (uh HJY hst)
      clear hst HJY HJN
      go_wp2
      go_roundw
      case rel=>exact⟨j+1,by omega,by go_num,uh HB2,uh HX2,HD⟩
      case measure=>simp[intOf]; omega
     | false=>
      have HQ:=hide (uh HJN hst)
      clear hst HJY HJN
      go_wp2
      go_ret
      exact⟨by rw[uh HQ]; rfl,uh HB2⟩
    ·have HQ:=hide (uh HYES fun i hi=>uh hd i hi (by omega))
     have HBW:=hide hb
     clear hb hbx hd HNO HROW HYES HXN HBX HB1 HX1
     have HTV:Hid (FO=((k == 2 || empT s) && numOk k n && plainT s)):=(uh HQ).trans (uh HT)
     clear HQ HT
     by_cases h2:k=2
     ·subst h2
      by_cases hn0:n=0
      ·subst hn0
       have HV:Hid (FO=plainT s):=by show _=_; rw[uh HTV]; simp[numOk]
       clear HTV
       go_wp2_with fail
       refine (uh HP _).mono ?_
       rintro e w1 ⟨rfl,rfl⟩
       go_wp2
       go_ret
       exact⟨by rw[uh HV]; rfl,uh HBW⟩
      ·have HV:Hid (FO=false):=by show _=_; rw[uh HTV]; simp[numOk,hn0]
       clear HTV
       go_wp2
       go_ret
       exact⟨by rw[uh HV]; rfl,uh HBW⟩
     ·cases he:s.toList.isEmpty with
      | false=>
       have HV:Hid (FO=false):=by show _=_; rw[uh HTV]; unfold empT; rw[he]; simp[h2]
       clear HTV
       go_wp2
       go_ret
       exact⟨by rw[uh HV]; rfl,uh HBW⟩
      | true=>
       have hpl:plainT s=true:=uh HPE he
       have HV0:Hid (FO=(numOk k n && plainT s)):=by show _=_; rw[uh HTV]; unfold empT; rw[he]; simp
       clear HTV
       by_cases h1:k=1
       ·subst h1
        have HV:Hid (FO=rangeI n):=by show _=_; rw[uh HV0,hpl]; simp[numOk]
        clear HV0 hpl
        go_wp2_with fail
        refine (uh HR _).mono ?_
        rintro e w1 ⟨rfl,rfl⟩
        go_wp2
        go_ret
        exact⟨by rw[uh HV]; rfl,uh HBW⟩
       ·by_cases h9:k=9
        ·subst h9
         by_cases a1:1≤n
         ·by_cases a2:n≤6
          ·have HV:Hid (FO=true):=by show _=_; rw[uh HV0,hpl]; simp[numOk,a1,a2]
           clear HV0 hpl
           go_wp2
           go_ret
           exact⟨by rw[uh HV]; rfl,uh HBW⟩
          ·have HV:Hid (FO=false):=by show _=_; rw[uh HV0,hpl]; simp[numOk,a2]
           clear HV0 hpl
           go_wp2
           go_ret
           exact⟨by rw[uh HV]; rfl,uh HBW⟩
         ·have HV:Hid (FO=false):=by show _=_; rw[uh HV0,hpl]; simp[numOk,a1]
          clear HV0 hpl
          go_wp2
          go_ret
          exact⟨by rw[uh HV]; rfl,uh HBW⟩
        ·by_cases hn0:n=0
         ·subst hn0
          have HV:Hid (FO=plainT s):=by show _=_; rw[uh HV0]; simp[numOk,h1,h9]
          clear HV0 hpl
          go_wp2_with fail
          refine (uh HP _).mono ?_
          rintro e w1 ⟨rfl,rfl⟩
          go_wp2
          go_ret
          exact⟨by rw[uh HV]; rfl,uh HBW⟩
         ·have HV:Hid (FO=false):=by show _=_; rw[uh HV0]; simp[numOk,h1,h9,hn0]
          clear HV0 hpl
          go_wp2
          go_ret
          exact⟨by rw[uh HV]; rfl,uh HBW⟩
  ·case round=>
    obtain⟨j,hj,rfl,hb,hbx,hd⟩:=hrel
    obtain⟨c0,c1,c2,c4⟩:=uh HBX _ hbx
    have hlt:¬ j < st.length:=by omega
    have HQ:=hide (uh HYES fun i hi=>uh hd i hi (by omega))
    have HBW:=hide hb
    clear hb hbx hd HNO HROW HYES HXN HBX HB1 HX1
    have HTV:Hid (FO=((k == 2 || empT s) && numOk k n && plainT s)):=(uh HQ).trans (uh HT)
    clear HQ HT
    by_cases h2:k=2
    ·subst h2
     by_cases hn0:n=0
     ·subst hn0
      have HV:Hid (FO=plainT s):=by show _=_; rw[uh HTV]; simp[numOk]
      clear HTV
      go_wp2_with fail
      refine (uh HP _).mono ?_
      rintro e w1 ⟨rfl,rfl⟩
      go_wp2
      go_ret
      exact⟨by rw[uh HV]; rfl,uh HBW⟩
     ·have HV:Hid (FO=false):=by show _=_; rw[uh HTV]; simp[numOk,hn0]
      clear HTV
      go_wp2
      go_ret
      exact⟨by rw[uh HV]; rfl,uh HBW⟩
    ·cases he:s.toList.isEmpty with
     | false=>
      have HV:Hid (FO=false):=by show _=_; rw[uh HTV]; unfold empT; rw[he]; simp[h2]
      clear HTV
      go_wp2
      go_ret
      exact⟨by rw[uh HV]; rfl,uh HBW⟩
     | true=>
      have hpl:plainT s=true:=uh HPE he
      have HV0:Hid (FO=(numOk k n && plainT s)):=by show _=_; rw[uh HTV]; unfold empT; rw[he]; simp
      clear HTV
      by_cases h1:k=1
      ·subst h1
       have HV:Hid (FO=rangeI n):=by show _=_; rw[uh HV0,hpl]; simp[numOk]
       clear HV0 hpl
       go_wp2_with fail
       refine (uh HR _).mono ?_
       rintro e w1 ⟨rfl,rfl⟩
       go_wp2
       go_ret
       exact⟨by rw[uh HV]; rfl,uh HBW⟩
      ·by_cases h9:k=9
       ·subst h9
        by_cases a1:1≤n
        ·by_cases a2:n≤6
         ·have HV:Hid (FO=true):=by show _=_; rw[uh HV0,hpl]; simp[numOk,a1,a2]
          clear HV0 hpl
          go_wp2
          go_ret
          exact⟨by rw[uh HV]; rfl,uh HBW⟩
         ·have HV:Hid (FO=false):=by show _=_; rw[uh HV0,hpl]; simp[numOk,a2]
          clear HV0 hpl
          go_wp2
          go_ret
          exact⟨by rw[uh HV]; rfl,uh HBW⟩
        ·have HV:Hid (FO=false):=by show _=_; rw[uh HV0,hpl]; simp[numOk,a1]
         clear HV0 hpl
         go_wp2
         go_ret
         exact⟨by rw[uh HV]; rfl,uh HBW⟩
       ·by_cases hn0:n=0
        ·subst hn0
         have HV:Hid (FO=plainT s):=by show _=_; rw[uh HV0]; simp[numOk,h1,h9]
         clear HV0 hpl
         go_wp2_with fail
         refine (uh HP _).mono ?_
         rintro e w1 ⟨rfl,rfl⟩
         go_wp2
         go_ret
         exact⟨by rw[uh HV]; rfl,uh HBW⟩
        ·have HV:Hid (FO=false):=by show _=_; rw[uh HV0]; simp[numOk,h1,h9,hn0]
         clear HV0 hpl
         go_wp2
         go_ret
         exact⟨by rw[uh HV]; rfl,uh HBW⟩
theorem fopOk_walk (m:PFOp) (v:Value) (bl:List Nat) (w:World) (h:ORow stepE w v m.steps bl) (hs:m.s.size≤1048576) (hns:∀ p∈m.steps,p.name.size≤1048576) :
  Calls Tryz.prog 31 #[.agg #[.int .i64 m.k,.int .i64 m.n,.string m.s,.bool m.root,v]] w fun e w'=>e = .returned (.bool (fopOk m))∧Below w.heap.size w w':=by
 by_cases hk:1≤m.k∧m.k≤12
 ·by_cases hn:1000 < m.steps.length
  ·exact fopOk_long m v bl w h hk hn
  ·cases hr:isRefK m.k with
   | true=>exact fopOk_main m v bl w h hk hn (.inl hr) hs hns
   | false=>
    by_cases hx:m.root=true∨0 < m.steps.length
    ·exact fopOk_ref m v bl w h hk hn hr hx
    ·exact fopOk_main m v bl w h hk hn (.inr ⟨by cases hq:m.root with | false=>rfl | true=>exact absurd (.inl hq) hx,by have:¬ 0 < m.steps.length:=fun h=>hx (.inr h); omega⟩) hs hns
 ·exact fopOk_out m v w hk
theorem startI_zero (n:Nat) (t:Bool) : startI n [] t = -1:=by cases n <;> rfl
theorem take_rev {ks:List Int} {i:Nat} (h:i < ks.length) : (ks.take (i+1)).reverse=ks[i] :: (ks.take i).reverse:=by
 rw[List.take_succ_eq_append_getElem h,List.reverse_append]; rfl
theorem start_walk (v:Value) (cond:List PFOp) (bl:List Nat) (hn:cond.length≤1000) : ∀ (i:Nat) (n:Nat) (t:Bool) (w:World) (_:i≤cond.length) (_:i≤n) (_:TRow w v cond bl),
  Calls Tryz.prog 32 #[v,.int .i64 ((i:Int) - 1),.bool t] w fun e w'=>e = .returned (.int .i64 (startI n ((cond.map (·.k)).take i).reverse t))∧w=w':=by
 intro i
 induction i using Nat.strongRecOn with
 | _ i ih=>
 intro n t w hi hin h
 cases i with
 | zero=>
  have HX:Hid (startI n ((cond.map (·.k)).take 0).reverse t = -1):=by show _=_; rw[List.take_zero]; exact startI_zero n t
  clear ih
  obtain⟨a,c,rfl,-⟩:=h.form
  clear h
  rw[uh HX]
  have h0:((0:Nat) : Int) - 1 = -1:=rfl
  rw[h0]
  go_enter Tryz.func32,Tryz.ntmps32
  go_wp2
  go_ret
  exact⟨rfl,rfl⟩
 | succ i=>
  have hlt:i < cond.length:=by omega
  obtain⟨m,rfl⟩ : ∃ m,n=m+1:=⟨n - 1,by omega⟩
  have hk:(cond.map (·.k))[i]'(by simpa using hlt)=cond[i].k:=by simp
  have HX:Hid (∀ t,startI (m+1) ((cond.map (·.k)).take (i+1)).reverse t=startI (m+1) (cond[i].k :: ((cond.map (·.k)).take i).reverse) t):=fun t=>by rw[take_rev (by simpa using hlt),hk]
  have HI:Hid (∀ j≤i,∀ t,Calls Tryz.prog 32 #[v,.int .i64 ((j:Int) - 1),.bool t] w fun e w'=>e = .returned (.int .i64 (startI m ((cond.map (·.k)).take j).reverse t))∧w=w'):=
   fun j hj t=>ih j (by omega) m t w (by omega) (by omega) h
  have HB:Hid (∀ t r,backF m ((cond.map (·.k)).take i).reverse t=some r→r=((cond.map (·.k)).take r.length).reverse∧r.length < i∧r.length < cond.length):=fun t r h=>by simpa using back_take h
  obtain⟨a,c,rfl,hxa⟩:=h.form
  obtain⟨g,of,rfl⟩:=hxa (by omega)
  obtain⟨vs,ib,hE,hc,-⟩:=h.at (List.getElem?_eq_getElem hlt)
  obtain⟨q,rfl,-⟩:=hE
  have c0:=hc 0 _ rfl
  rw[show of+i*5+0=of+i*5 from rfl] at c0
  clear ih hc hxa h hk
  have hx0:((i+1:Nat) : Int) - 1=(i:Int):=by omega
  rw[hx0,uh HX]
  clear hx0 HX hin
  generalize hT:((cond.map (·.k)).take i).reverse=T at *
  generalize cond[i].k=k at *
  have hii:¬ (i:Int) < 0:=by omega
  have hTl:T.length=i:=by rw[← hT]; simp; omega
  have HI0:Hid (∀ t,Calls Tryz.prog 32 #[.slice (some ⟨g,of,none⟩) cond.length c,.int .i64 ((i:Int) - 1),.bool t] w fun e w'=>e = .returned (.int .i64 (startI m T t))∧w=w'):=fun t=>by
   have:=uh HI i (Nat.le_refl _) t
   rwa [hT] at this
  have HI2:Hid (∀ t r,backF m T t=some r→(r.length:Int) < 1000∧∀ t',Calls Tryz.prog 32 #[.slice (some ⟨g,of,none⟩) cond.length c,.int .i64 ((r.length:Int) - 1),.bool t'] w fun e w'=>e = .returned (.int .i64 (startI m r t'))∧w=w'):=fun t r e=>by
   obtain⟨h1,h2,h3⟩:=uh HB t r e
   refine⟨by omega,fun t'=>?_⟩
   have:=uh HI r.length (by omega) t'
   rwa [← h1] at this
  clear HI HB hT
  have hltI:(i:Int) < (cond.length:Int):=by omega
  have hnI:(cond.length:Int)≤1000:=by omega
  clear hi hlt hn
  cases t with
  | false=>
   clear HI0 HI2
   by_cases h1:1≤k
   ·by_cases h7:k≤7
    ·have HV:Hid (startI (m+1) (k :: T) false=(i:Int)):=by show _=_; simp[startI,backF,isVal,h1,h7,hTl]
     rw[uh HV]
     clear HV hTl
     go_enter Tryz.func32,Tryz.ntmps32
     go_wp2
     go_ret
     exact⟨rfl,rfl⟩
    ·have HV:Hid (startI (m+1) (k :: T) false = -1):=by show _=_; simp[startI,backF,isVal,h7]
     rw[uh HV]
     clear HV hTl
     go_enter Tryz.func32,Tryz.ntmps32
     go_wp2
     go_ret
     exact⟨rfl,rfl⟩
   ·have HV:Hid (startI (m+1) (k :: T) false = -1):=by show _=_; simp[startI,backF,isVal,h1]
    rw[uh HV]
    clear HV hTl
    go_enter Tryz.func32,Tryz.ntmps32
    go_wp2
    go_ret
    exact⟨rfl,rfl⟩
  | true=>
   by_cases h8:k=8
   ·subst h8
    have HV:Hid (startI (m+1) (8 :: T) true=(i:Int)):=by show _=_; simp[startI,backF,hTl]
    rw[uh HV]
    clear HV hTl HI0 HI2
    go_enter Tryz.func32,Tryz.ntmps32
    go_wp2
    go_ret
    exact⟨rfl,rfl⟩
   by_cases h12:k=12
   ·subst h12
    have HV:Hid (startI (m+1) (12 :: T) true=startI m T true):=by show _=_; simp[startI,backF]
    rw[uh HV]
    clear HV hTl HI2 h8
    go_enter Tryz.func32,Tryz.ntmps32
    go_wp2_with fail
    refine (uh HI0 true).mono ?_
    rintro e w1 ⟨rfl,rfl⟩
    go_wp2
    go_ret
    exact⟨rfl,rfl⟩
   clear hTl
   by_cases h9:k=9
   ·subst h9
    clear h8 h12
    ·skip
     have HV1:Hid (backF m T false=none→startI (m+1) (9 :: T) true = -1):=fun e=>by simp[startI,backF,e]
     have HV2:Hid (∀ r,backF m T false=some r→startI (m+1) (9 :: T) true=startI m r false):=fun r e=>by simp[startI,backF,e]
     have HN:Hid (backF m T false=none→startI m T false = -1):=fun e=>by unfold startI; rw[e]
     have HY:Hid (∀ r,backF m T false=some r→startI m T false=(r.length:Int)):=fun r e=>by unfold startI; rw[e]
     go_enter Tryz.func32,Tryz.ntmps32
     go_wp2_with fail
     refine (uh HI0 false).mono ?_
     rintro e w1 ⟨rfl,rfl⟩
     cases hb:backF m T false with
     | none=>
      rw[uh HN hb]
      have HVN:=hide (uh HV1 hb)
      clear hb HV1 HV2 HN HY HI0 HI2
      go_wp2
      go_ret
      exact⟨by rw[uh HVN]; rfl,rfl⟩
     | some r=>
      obtain⟨hr,hcall⟩:=uh HI2 false r hb
      have HC:=hide (hcall false)
      have hr0:¬ (r.length:Int) < 0:=by omega
      rw[uh HY r hb]
      have HVN:=hide (uh HV2 r hb)
      clear hb HV1 HV2 HN HY HI0 HI2 hcall
      go_wp2_with fail
      refine (uh HC).mono ?_
      rintro e w1 ⟨rfl,rfl⟩
      go_wp2
      go_ret
      exact⟨by rw[uh HVN]; rfl,rfl⟩
   by_cases h10:k=10
   ·subst h10
    clear h8 h12 h9
    ·skip
     have HV1:Hid (backF m T true=none→startI (m+1) (10 :: T) true = -1):=fun e=>by simp[startI,backF,e]
     have HV2:Hid (∀ r,backF m T true=some r→startI (m+1) (10 :: T) true=startI m r true):=fun r e=>by simp[startI,backF,e]
     have HN:Hid (backF m T true=none→startI m T true = -1):=fun e=>by unfold startI; rw[e]
     have HY:Hid (∀ r,backF m T true=some r→startI m T true=(r.length:Int)):=fun r e=>by unfold startI; rw[e]
     go_enter Tryz.func32,Tryz.ntmps32
     go_wp2_with fail
     refine (uh HI0 true).mono ?_
     rintro e w1 ⟨rfl,rfl⟩
     cases hb:backF m T true with
     | none=>
      rw[uh HN hb]
      have HVN:=hide (uh HV1 hb)
      clear hb HV1 HV2 HN HY HI0 HI2
      go_wp2
      go_ret
      exact⟨by rw[uh HVN]; rfl,rfl⟩
     | some r=>
      obtain⟨hr,hcall⟩:=uh HI2 true r hb
      have HC:=hide (hcall true)
      have hr0:¬ (r.length:Int) < 0:=by omega
      rw[uh HY r hb]
      have HVN:=hide (uh HV2 r hb)
      clear hb HV1 HV2 HN HY HI0 HI2 hcall
      go_wp2_with fail
      refine (uh HC).mono ?_
      rintro e w1 ⟨rfl,rfl⟩
      go_wp2
      go_ret
      exact⟨by rw[uh HVN]; rfl,rfl⟩
   by_cases h11:k=11
   ·subst h11
    clear h8 h12 h9 h10
    ·skip
     have HV1:Hid (backF m T true=none→startI (m+1) (11 :: T) true = -1):=fun e=>by simp[startI,backF,e]
     have HV2:Hid (∀ r,backF m T true=some r→startI (m+1) (11 :: T) true=startI m r true):=fun r e=>by simp[startI,backF,e]
     have HN:Hid (backF m T true=none→startI m T true = -1):=fun e=>by unfold startI; rw[e]
     have HY:Hid (∀ r,backF m T true=some r→startI m T true=(r.length:Int)):=fun r e=>by unfold startI; rw[e]
     go_enter Tryz.func32,Tryz.ntmps32
     go_wp2_with fail
     refine (uh HI0 true).mono ?_
     rintro e w1 ⟨rfl,rfl⟩
     cases hb:backF m T true with
     | none=>
      rw[uh HN hb]
      have HVN:=hide (uh HV1 hb)
      clear hb HV1 HV2 HN HY HI0 HI2
      go_wp2
      go_ret
      exact⟨by rw[uh HVN]; rfl,rfl⟩
     | some r=>
      obtain⟨hr,hcall⟩:=uh HI2 true r hb
      have HC:=hide (hcall true)
      have hr0:¬ (r.length:Int) < 0:=by omega
      rw[uh HY r hb]
      have HVN:=hide (uh HV2 r hb)
      clear hb HV1 HV2 HN HY HI0 HI2 hcall
      go_wp2_with fail
      refine (uh HC).mono ?_
      rintro e w1 ⟨rfl,rfl⟩
      go_wp2
      go_ret
      exact⟨by rw[uh HVN]; rfl,rfl⟩
   ·have HV:Hid (startI (m+1) (k :: T) true = -1):=by show _=_; simp[startI,backF,h8,h9,h10,h11,h12]
    have b9:(k != 9)=true:=by simp[h9]
    have b10:(k != 10)=true:=by simp[h10]
    have b11:(k != 11)=true:=by simp[h11]
    rw[uh HV]
    clear HV HI0 HI2
    go_enter Tryz.func32,Tryz.ntmps32
    go_wp2
    go_ret
    exact⟨rfl,rfl⟩
theorem selOk_walk (m:PSel) (v:Value) (bl:List Nat) (w:World) (h:TRow w v m.cond bl) (hs:szSel m≤1048576) :
  Calls Tryz.prog 15 #[.agg #[.int .i64 m.k,.string m.name,.bool m.hasA,.bool m.hasB,.bool m.hasC,.int .i64 m.a,.int .i64 m.b,.int .i64 m.c,v]] w fun e w'=>e = .returned (.bool (selOk m))∧Below w.heap.size w w':=by
 have HO:=hide h
 have HZ:=hide hs
 have hnz:m.name.size≤1048576:=by unfold szSel at hs; omega
 have hcz:m.cond.length≤1048576:=by unfold szSel szFops at hs; omega
 obtain⟨K,name,ha,hb,hc,a,b,c,cond⟩:=m
 simp only at *
 have HP:Hid (∀ w,Calls Tryz.prog 29 #[.string name] w fun e w'=>e = .returned (.bool (plainT name))∧w=w'):=fun w=>plain_walk _ w hnz
 have HRa:Hid (∀ w,Calls Tryz.prog 30 #[.int .i64 a] w fun e w'=>e = .returned (.bool (rangeI a))∧w=w'):=fun w=>range_walk _ w
 have HRb:Hid (∀ w,Calls Tryz.prog 30 #[.int .i64 b] w fun e w'=>e = .returned (.bool (rangeI b))∧w=w'):=fun w=>range_walk _ w
 have HRc:Hid (∀ w,Calls Tryz.prog 30 #[.int .i64 c] w fun e w'=>e = .returned (.bool (rangeI c))∧w=w'):=fun w=>range_walk _ w
 have HB:Hid (∀ o,Below w.heap.size w (w.alloc o)):=fun o=>alloc_b w o
 obtain⟨ad,cp,rfl,hxa⟩:=h.form
 have HXA:=hide hxa
 have hczI:(cond.length:Int)≤1048576:=by omega
 clear h hs hnz hcz hxa
 have HA:Hid (selOk ⟨K,name,ha,hb,hc,a,b,c,cond⟩=(decide (1≤K) && decide (K≤5) && plainT name && rangeI a && rangeI b && rangeI c && selB ⟨K,name,ha,hb,hc,a,b,c,cond⟩ && (K != 5 || condOk cond))):=rfl
 generalize selOk ⟨K,name,ha,hb,hc,a,b,c,cond⟩=SO at *
 by_cases k1':K < 1
 ·have k1:¬ 1≤K:=by omega
  have HV:Hid (SO=false):=by show _=_; rw[uh HA]; simp[k1]
  clear HA HO HXA HZ
  go_enter Tryz.func15,Tryz.ntmps15
  go_wp2
  go_ret
  exact⟨by rw[uh HV]; rfl,uh HB _⟩
 by_cases k5':5 < K
 ·have k5:¬ K≤5:=by omega
  have k1:1≤K:=by omega
  have HV:Hid (SO=false):=by show _=_; rw[uh HA]; simp[k5]
  clear HA HO HXA HZ
  go_enter Tryz.func15,Tryz.ntmps15
  go_wp2
  go_ret
  exact⟨by rw[uh HV]; rfl,uh HB _⟩
 have k1:1≤K:=by omega
 have k5:K≤5:=by omega
 go_enter Tryz.func15,Tryz.ntmps15
 go_wp2_with fail
 refine (uh HP _).mono ?_
 rintro e w1 ⟨rfl,rfl⟩
 cases hp:plainT name with
 | false=>
  have HV:Hid (SO=false):=by show _=_; rw[uh HA]; simp[hp]
  clear HA HO HXA HZ
  go_wp2
  go_ret
  exact⟨by rw[uh HV]; rfl,uh HB _⟩
 | true=>
  go_wp2_with fail
  refine (uh HRa _).mono ?_
  rintro e w1 ⟨rfl,rfl⟩
  cases har:rangeI a with
  | false=>
   have HV:Hid (SO=false):=by show _=_; rw[uh HA]; simp[har]
   clear HA HO HXA HZ
   go_wp2
   go_ret
   exact⟨by rw[uh HV]; rfl,uh HB _⟩
  | true=>
   go_wp2_with fail
   refine (uh HRb _).mono ?_
   rintro e w1 ⟨rfl,rfl⟩
   cases hbr:rangeI b with
   | false=>
    have HV:Hid (SO=false):=by show _=_; rw[uh HA]; simp[hbr]
    clear HA HO HXA HZ
    go_wp2
    go_ret
    exact⟨by rw[uh HV]; rfl,uh HB _⟩
   | true=>
    go_wp2_with fail
    refine (uh HRc _).mono ?_
    rintro e w1 ⟨rfl,rfl⟩
    cases hcr:rangeI c with
    | false=>
     have HV:Hid (SO=false):=by show _=_; rw[uh HA]; simp[hcr]
     clear HA HO HXA HZ
     go_wp2
     go_ret
     exact⟨by rw[uh HV]; rfl,uh HB _⟩
    | true=>
     have HS:Hid (SO=(selB ⟨K,name,ha,hb,hc,a,b,c,cond⟩ && (K != 5 || condOk cond))):=by show _=_; rw[uh HA,hp,har,hbr,hcr,decide_eq_true k1,decide_eq_true k5]; rfl
     clear HA HP HRa HRb HRc hp har hbr hcr
     rcases (show K=1∨K=2∨K=3∨K=4∨K=5 by omega) with rfl | rfl | rfl | rfl | rfl
     ·clear k1 k5 k1' k5'
      cases ha with
      | true=>
       have HV:Hid (SO=false):=by show _=_; rw[uh HS]; simp[selB]
       clear HS
       go_wp2
       go_ret
       exact⟨by rw[uh HV]; rfl,uh HB _⟩
      | false=>
       cases hb with
       | true=>
        have HV:Hid (SO=false):=by show _=_; rw[uh HS]; simp[selB]
        clear HS
        go_wp2
        go_ret
        exact⟨by rw[uh HV]; rfl,uh HB _⟩
       | false=>
        cases hc with
        | true=>
         have HV:Hid (SO=false):=by show _=_; rw[uh HS]; simp[selB]
         clear HS
         go_wp2
         go_ret
         exact⟨by rw[uh HV]; rfl,uh HB _⟩
        | false=>
         by_cases nb:b=0
         ·subst nb
          by_cases nc:c=0
          ·subst nc
           by_cases na:a=0
           ·subst na
            have HV:Hid (SO=decide ((cond.length:Int)=0)):=by show _=_; rw[uh HS]; simp[selB]
            clear HS HO HXA HZ
            go_wp2
            go_ret
            exact⟨by rw[uh HV]; rfl,uh HB _⟩
           ·skip
            have na1:(a != 0)=true:=by simp[na]
            have na2:(a == 0)=false:=by simp[na]
            have HV:Hid (SO=false):=by show _=_; rw[uh HS]; simp[selB,na]
            clear HS
            go_wp2
            go_ret
            exact⟨by rw[uh HV]; rfl,uh HB _⟩
          ·skip
           have nc1:(c != 0)=true:=by simp[nc]
           have nc2:(c == 0)=false:=by simp[nc]
           have HV:Hid (SO=false):=by show _=_; rw[uh HS]; simp[selB,nc]
           clear HS
           go_wp2
           go_ret
           exact⟨by rw[uh HV]; rfl,uh HB _⟩
         ·skip
          have nb1:(b != 0)=true:=by simp[nb]
          have nb2:(b == 0)=false:=by simp[nb]
          have HV:Hid (SO=false):=by show _=_; rw[uh HS]; simp[selB,nb]
          clear HS
          go_wp2
          go_ret
          exact⟨by rw[uh HV]; rfl,uh HB _⟩
     ·clear k1 k5 k1' k5'
      cases he:name.toList.isEmpty with
      | false=>
       have HV:Hid (SO=false):=by show _=_; rw[uh HS]; simp[selB,empT,he]
       clear HS
       go_wp2
       go_ret
       exact⟨by rw[uh HV]; rfl,uh HB _⟩
      | true=>
       cases ha with
       | true=>
        have HV:Hid (SO=false):=by show _=_; rw[uh HS]; simp[selB,empT,he]
        clear HS
        go_wp2
        go_ret
        exact⟨by rw[uh HV]; rfl,uh HB _⟩
       | false=>
        cases hb with
        | true=>
         have HV:Hid (SO=false):=by show _=_; rw[uh HS]; simp[selB,empT,he]
         clear HS
         go_wp2
         go_ret
         exact⟨by rw[uh HV]; rfl,uh HB _⟩
        | false=>
         cases hc with
         | true=>
          have HV:Hid (SO=false):=by show _=_; rw[uh HS]; simp[selB,empT,he]
          clear HS
          go_wp2
          go_ret
          exact⟨by rw[uh HV]; rfl,uh HB _⟩
         | false=>
          by_cases nb:b=0
          ·subst nb
           by_cases nc:c=0
           ·subst nc
            by_cases na:a=0
            ·subst na
             have HV:Hid (SO=decide ((cond.length:Int)=0)):=by show _=_; rw[uh HS]; simp[selB,empT,he]
             clear HS HO HXA HZ
             go_wp2
             go_ret
             exact⟨by rw[uh HV]; rfl,uh HB _⟩
            ·skip
             have na1:(a != 0)=true:=by simp[na]
             have na2:(a == 0)=false:=by simp[na]
             have HV:Hid (SO=false):=by show _=_; rw[uh HS]; simp[selB,empT,he,na]
             clear HS
             go_wp2
             go_ret
             exact⟨by rw[uh HV]; rfl,uh HB _⟩
           ·skip
            have nc1:(c != 0)=true:=by simp[nc]
            have nc2:(c == 0)=false:=by simp[nc]
            have HV:Hid (SO=false):=by show _=_; rw[uh HS]; simp[selB,empT,he,nc]
            clear HS
            go_wp2
            go_ret
            exact⟨by rw[uh HV]; rfl,uh HB _⟩
          ·skip
           have nb1:(b != 0)=true:=by simp[nb]
           have nb2:(b == 0)=false:=by simp[nb]
           have HV:Hid (SO=false):=by show _=_; rw[uh HS]; simp[selB,empT,he,nb]
           clear HS
           go_wp2
           go_ret
           exact⟨by rw[uh HV]; rfl,uh HB _⟩
     ·clear k1 k5 k1' k5'
      cases he:name.toList.isEmpty with
      | false=>
       have HV:Hid (SO=false):=by show _=_; rw[uh HS]; simp[selB,empT,he]
       clear HS
       go_wp2
       go_ret
       exact⟨by rw[uh HV]; rfl,uh HB _⟩
      | true=>
       cases ha with
       | true=>
        have HV:Hid (SO=false):=by show _=_; rw[uh HS]; simp[selB,empT,he]
        clear HS
        go_wp2
        go_ret
        exact⟨by rw[uh HV]; rfl,uh HB _⟩
       | false=>
        cases hb with
        | true=>
         have HV:Hid (SO=false):=by show _=_; rw[uh HS]; simp[selB,empT,he]
         clear HS
         go_wp2
         go_ret
         exact⟨by rw[uh HV]; rfl,uh HB _⟩
        | false=>
         cases hc with
         | true=>
          have HV:Hid (SO=false):=by show _=_; rw[uh HS]; simp[selB,empT,he]
          clear HS
          go_wp2
          go_ret
          exact⟨by rw[uh HV]; rfl,uh HB _⟩
         | false=>
          by_cases nb:b=0
          ·subst nb
           by_cases nc:c=0
           ·subst nc
            have HV:Hid (SO=decide ((cond.length:Int)=0)):=by show _=_; rw[uh HS]; simp[selB,empT,he]
            clear HS HO HXA HZ
            go_wp2
            go_ret
            exact⟨by rw[uh HV]; rfl,uh HB _⟩
           ·skip
            have nc1:(c != 0)=true:=by simp[nc]
            have nc2:(c == 0)=false:=by simp[nc]
            have HV:Hid (SO=false):=by show _=_; rw[uh HS]; simp[selB,empT,he,nc]
            clear HS
            go_wp2
            go_ret
            exact⟨by rw[uh HV]; rfl,uh HB _⟩
          ·skip
           have nb1:(b != 0)=true:=by simp[nb]
           have nb2:(b == 0)=false:=by simp[nb]
           have HV:Hid (SO=false):=by show _=_; rw[uh HS]; simp[selB,empT,he,nb]
           clear HS
           go_wp2
           go_ret
           exact⟨by rw[uh HV]; rfl,uh HB _⟩
     ·clear k1 k5 k1' k5'
      cases he:name.toList.isEmpty with
      | false=>
       have HV:Hid (SO=false):=by show _=_; rw[uh HS]; simp[selB,empT,he]
       clear HS
       go_wp2
       go_ret
       exact⟨by rw[uh HV]; rfl,uh HB _⟩
      | true=>
       cases ha with
       | true=>
        cases hb with
        | true=>
         cases hc with
         | true=>
          have HV:Hid (SO=decide ((cond.length:Int)=0)):=by show _=_; rw[uh HS]; simp[selB,empT,he]
          clear HS HO HXA HZ
          go_wp2
          go_ret
          exact⟨by rw[uh HV]; rfl,uh HB _⟩
         | false=>
          by_cases nc:c=0
          ·subst nc
           have HV:Hid (SO=decide ((cond.length:Int)=0)):=by show _=_; rw[uh HS]; simp[selB,empT,he]
           clear HS HO HXA HZ
           go_wp2
           go_ret
           exact⟨by rw[uh HV]; rfl,uh HB _⟩
          ·skip
           have nc1:(c != 0)=true:=by simp[nc]
           have nc2:(c == 0)=false:=by simp[nc]
           have HV:Hid (SO=false):=by show _=_; rw[uh HS]; simp[selB,empT,he,nc]
           clear HS
           go_wp2
           go_ret
           exact⟨by rw[uh HV]; rfl,uh HB _⟩
        | false=>
         by_cases nb:b=0
         ·subst nb
          cases hc with
          | true=>
           have HV:Hid (SO=decide ((cond.length:Int)=0)):=by show _=_; rw[uh HS]; simp[selB,empT,he]
           clear HS HO HXA HZ
           go_wp2
           go_ret
           exact⟨by rw[uh HV]; rfl,uh HB _⟩
          | false=>
           by_cases nc:c=0
           ·subst nc
            have HV:Hid (SO=decide ((cond.length:Int)=0)):=by show _=_; rw[uh HS]; simp[selB,empT,he]
            clear HS HO HXA HZ
            go_wp2
            go_ret
            exact⟨by rw[uh HV]; rfl,uh HB _⟩
           ·skip
            have nc1:(c != 0)=true:=by simp[nc]
            have nc2:(c == 0)=false:=by simp[nc]
            have HV:Hid (SO=false):=by show _=_; rw[uh HS]; simp[selB,empT,he,nc]
            clear HS
            go_wp2
            go_ret
            exact⟨by rw[uh HV]; rfl,uh HB _⟩
         ·skip
          have nb1:(b != 0)=true:=by simp[nb]
          have nb2:(b == 0)=false:=by simp[nb]
          have HV:Hid (SO=false):=by show _=_; rw[uh HS]; simp[selB,empT,he,nb]
          clear HS
          go_wp2
          go_ret
          exact⟨by rw[uh HV]; rfl,uh HB _⟩
       | false=>
        by_cases na:a=0
        ·subst na
         cases hb with
         | true=>
          cases hc with
          | true=>
           have HV:Hid (SO=decide ((cond.length:Int)=0)):=by show _=_; rw[uh HS]; simp[selB,empT,he]
           clear HS HO HXA HZ
           go_wp2
           go_ret
           exact⟨by rw[uh HV]; rfl,uh HB _⟩
          | false=>
           by_cases nc:c=0
           ·subst nc
            have HV:Hid (SO=decide ((cond.length:Int)=0)):=by show _=_; rw[uh HS]; simp[selB,empT,he]
            clear HS HO HXA HZ
            go_wp2
            go_ret
            exact⟨by rw[uh HV]; rfl,uh HB _⟩
           ·skip
            have nc1:(c != 0)=true:=by simp[nc]
            have nc2:(c == 0)=false:=by simp[nc]
            have HV:Hid (SO=false):=by show _=_; rw[uh HS]; simp[selB,empT,he,nc]
            clear HS
            go_wp2
            go_ret
            exact⟨by rw[uh HV]; rfl,uh HB _⟩
         | false=>
          by_cases nb:b=0
          ·subst nb
           cases hc with
           | true=>
            have HV:Hid (SO=decide ((cond.length:Int)=0)):=by show _=_; rw[uh HS]; simp[selB,empT,he]
            clear HS HO HXA HZ
            go_wp2
            go_ret
            exact⟨by rw[uh HV]; rfl,uh HB _⟩
           | false=>
            by_cases nc:c=0
            ·subst nc
             have HV:Hid (SO=decide ((cond.length:Int)=0)):=by show _=_; rw[uh HS]; simp[selB,empT,he]
             clear HS HO HXA HZ
             go_wp2
             go_ret
             exact⟨by rw[uh HV]; rfl,uh HB _⟩
            ·skip
             have nc1:(c != 0)=true:=by simp[nc]
             have nc2:(c == 0)=false:=by simp[nc]
             have HV:Hid (SO=false):=by show _=_; rw[uh HS]; simp[selB,empT,he,nc]
             clear HS
             go_wp2
             go_ret
             exact⟨by rw[uh HV]; rfl,uh HB _⟩
          ·skip
           have nb1:(b != 0)=true:=by simp[nb]
           have nb2:(b == 0)=false:=by simp[nb]
           have HV:Hid (SO=false):=by show _=_; rw[uh HS]; simp[selB,empT,he,nb]
           clear HS
           go_wp2
           go_ret
           exact⟨by rw[uh HV]; rfl,uh HB _⟩
        ·skip
         have na1:(a != 0)=true:=by simp[na]
         have na2:(a == 0)=false:=by simp[na]
         have HV:Hid (SO=false):=by show _=_; rw[uh HS]; simp[selB,empT,he,na]
         clear HS
         go_wp2
         go_ret
         exact⟨by rw[uh HV]; rfl,uh HB _⟩
     ·clear k1 k5 k1' k5'
      cases he:name.toList.isEmpty with
      | false=>
       have HV:Hid (SO=false):=by show _=_; rw[uh HS]; simp[selB,empT,he]
       clear HS
       go_wp2
       go_ret
       exact⟨by rw[uh HV]; rfl,uh HB _⟩
      | true=>
       cases ha with
       | true=>
        have HV:Hid (SO=false):=by show _=_; rw[uh HS]; simp[selB,empT,he]
        clear HS
        go_wp2
        go_ret
        exact⟨by rw[uh HV]; rfl,uh HB _⟩
       | false=>
        cases hb with
        | true=>
         have HV:Hid (SO=false):=by show _=_; rw[uh HS]; simp[selB,empT,he]
         clear HS
         go_wp2
         go_ret
         exact⟨by rw[uh HV]; rfl,uh HB _⟩
        | false=>
         cases hc with
         | true=>
          have HV:Hid (SO=false):=by show _=_; rw[uh HS]; simp[selB,empT,he]
          clear HS
          go_wp2
          go_ret
          exact⟨by rw[uh HV]; rfl,uh HB _⟩
         | false=>
          by_cases nb:b=0
          ·subst nb
           by_cases nc:c=0
           ·subst nc
            by_cases na:a=0
            ·subst na
             have HV:Hid (SO=condOk cond):=by show _=_; rw[uh HS]; simp[selB,empT,he]
             clear HS
             obtain⟨BX,hBX⟩ : ∃ BX:World→Prop,BX=fun wr=>wr.heap[w.heap.size]?=some (Obj.cells #[.int .i64 5,.string name,.bool false,.bool false,.bool false,.int .i64 0,.int .i64 0,.int .i64 0,.slice ad cond.length cp] 40 (0,0)):=⟨_,rfl⟩
             have HX0:Hid (BX (w.alloc (Obj.cells #[.int .i64 5,.string name,.bool false,.bool false,.bool false,.int .i64 0,.int .i64 0,.int .i64 0,.slice ad cond.length cp] 40 (0,0)))):=by rw[hBX]; exact heap_alloc_new w _
             have HXN:Hid (∀ wr w',BX wr→Below wr.heap.size wr w'→BX w'):=by rw[hBX]; exact fun wr w' h hb=>(hb.block _ (Array.getElem?_eq_some_iff.1 h).1).trans h
             have HBX:Hid (∀ wr,BX wr→wr.cell? ⟨w.heap.size,8,none⟩=some (.slice ad cond.length cp)):=by rw[hBX]; exact fun wr h=>Lib.cell_of_heap h 8
             have HB0:Hid (Below w.heap.size w (w.alloc (Obj.cells #[.int .i64 5,.string name,.bool false,.bool false,.bool false,.int .i64 0,.int .i64 0,.int .i64 0,.slice ad cond.length cp] 40 (0,0)))):=alloc_b w _
             clear hBX
             by_cases n1:(cond.length:Int) < 1
             ·have HV2:Hid (condOk cond=false):=by
               show _=_
               rw[← condOk_start,decide_eq_false (show ¬ 1≤cond.length by omega)]; rfl
              clear HX0 HXN HBX HO HXA HZ
              go_wp2
              go_ret
              exact⟨by rw[uh HV,uh HV2]; rfl,uh HB _⟩
             by_cases n2:(1000:Int) < (cond.length:Int)
             ·have HV2:Hid (condOk cond=false):=by
               show _=_
               unfold condOk
               rw[decide_eq_false (show ¬ cond.length≤1000 by omega)]; rfl
              clear HX0 HXN HBX HO HXA HZ
              go_wp2
              go_ret
              exact⟨by rw[uh HV,uh HV2]; rfl,uh HB _⟩
             have HNO:Hid (∀ j (hj:j < cond.length),fopOk cond[j]=false→condOk cond=false):=fun j hj e=>by unfold condOk; rw[all_no hj e]; simp
             have HYES:Hid ((∀ j (hj:j < cond.length),fopOk cond[j]=true)→condOk cond=decide (startI cond.length (cond.map (·.k)).reverse true=0)):=fun e=>by
              rw[← condOk_start,all_yes e,decide_eq_true (show 1≤cond.length by omega),decide_eq_true (show cond.length≤1000 by omega)]
              simp only[Bool.true_and]
              rw[Bool.eq_iff_iff]; simp
             obtain⟨g,of,rfl⟩ : ∃ g of:Nat,ad=some ⟨g,of,none⟩:=uh HXA (by omega)
             have HROW:Hid (∀ (wr:World) (j:Nat) (hj:j < cond.length),Below w.heap.size w wr→∃ q,wr.cell? ⟨g,of+j*5,none⟩=some (.int .i64 cond[j].k)∧wr.cell? ⟨g,of+j*5+1,none⟩=some (.int .i64 cond[j].n)∧wr.cell? ⟨g,of+j*5+2,none⟩=some (.string cond[j].s)∧wr.cell? ⟨g,of+j*5+3,none⟩=some (.bool cond[j].root)∧wr.cell? ⟨g,of+j*5+4,none⟩=some q ∧
               Calls Tryz.prog 31 #[.agg #[.int .i64 cond[j].k,.int .i64 cond[j].n,.string cond[j].s,.bool cond[j].root,q]] wr fun e w'=>e = .returned (.bool (fopOk cond[j]))∧Below wr.heap.size wr w'):=by
              intro wr j hj hb
              obtain⟨vs,ib,hE,hc,-⟩:=((uh HO).below hb).at (List.getElem?_eq_getElem hj)
              obtain⟨q,rfl,hst⟩:=hE
              have hz:=sz_fop (Nat.le_trans (Nat.le_add_left _ name.size) (uh HZ)) (List.getElem_mem hj)
              exact⟨q,hc 0 _ rfl,hc 1 _ rfl,hc 2 _ rfl,hc 3 _ rfl,hc 4 _ rfl,fopOk_walk _ q ib wr hst hz.1 hz.2⟩
             have HST:Hid (∀ wr,Below w.heap.size w wr→Calls Tryz.prog 32 #[.slice (some ⟨g,of,none⟩) cond.length cp,.int .i64 ((cond.length:Int) - 1),.bool true] wr fun e w'=>e = .returned (.int .i64 (startI cond.length (cond.map (·.k)).reverse true))∧wr=w'):=fun wr hb=>by
              have:=start_walk _ cond bl (by omega) cond.length cond.length true wr (Nat.le_refl _) (Nat.le_refl _) ((uh HO).below hb)
              rwa [List.take_of_length_le (by simp)] at this
             clear HO HXA HZ
             generalize condOk cond=CO at *
             generalize startI cond.length (cond.map (·.k)).reverse true=SI at *
             go_wp2
             go_loopw [4] (fun iv wr=>∃ j:Nat,j≤cond.length∧iv = .int .i64 (j:Int)∧Below w.heap.size w wr∧BX wr∧Hid (∀ i (hi:i < cond.length),i < j→fopOk cond[i]=true)) (fun iv _=>cond.length - (intOf iv).toNat)
             case atStart=>exact⟨0,Nat.zero_le _,rfl,uh HB0,uh HX0,fun i _ hi=>by omega⟩
             case round=>
              obtain⟨j,hj,rfl,hb,hbx,hd⟩:=hrel
              have c8:=uh HBX _ hbx
              by_cases hlt:j < cond.length
              ·have hltI:(j:Int) < (cond.length:Int):=by omega
               obtain⟨q,d0,d1,d2,d3,d4,hcall⟩:=uh HROW _ j hlt hb
               have HC:=hide hcall
               have HBW:=hide hb
               have HBXW:=hide hbx
               have HJY:Hid (fopOk cond[j]=true→∀ i (hi:i < cond.length),i < j+1→fopOk cond[i]=true):=fun e i hi h=>by
                by_cases ei:i=j
                ·subst ei; exact e
                ·exact uh hd i hi (by omega)
               have HJN:Hid (fopOk cond[j]=false→CO=false):=uh HNO j hlt
               clear hcall hb hbx hd HNO HROW HYES HST
               generalize cond[j]=P at *
               go_wp2_with fail
               refine (uh HC).mono ?_
               rintro e w1 ⟨rfl,b1⟩
               have HB2:=hide (below_next (uh HBW) b1)
               have HX2:=hide (uh HXN _ _ (uh HBXW) b1)
               clear HC b1 d0 d1 d2 d3 d4 c8 HBW HBXW
               cases hst:fopOk P with
               | true=>
                have HD:=hide (uh HJY hst)
                clear hst HJY HJN
                go_wp2
                go_roundw
                case rel=>exact⟨j+1,by omega,by go_num,uh HB2,uh HX2,HD⟩
                case measure=>simp[intOf]; omega
               | false=>
                have HQ:=hide (uh HJN hst)
                clear hst HJY HJN
                go_wp2
                go_ret
                exact⟨by rw[uh HV,uh HQ]; rfl,uh HB2⟩
              ·have HQ:=hide (uh HYES fun i hi=>uh hd i hi (by omega))
               have HC:=hide (uh HST _ hb)
               have HBW:=hide hb
               clear hb hbx hd HNO HROW HYES HXN HBX HST
               go_wp2_with fail
               refine (uh HC).mono ?_
               rintro e w1 ⟨rfl,rfl⟩
               clear HC
               go_wp2
               go_ret
               exact⟨by rw[uh HV,uh HQ]; rfl,uh HBW⟩
            ·skip
             have na1:(a != 0)=true:=by simp[na]
             have na2:(a == 0)=false:=by simp[na]
             have HV:Hid (SO=false):=by show _=_; rw[uh HS]; simp[selB,empT,he,na]
             clear HS
             go_wp2
             go_ret
             exact⟨by rw[uh HV]; rfl,uh HB _⟩
           ·skip
            have nc1:(c != 0)=true:=by simp[nc]
            have nc2:(c == 0)=false:=by simp[nc]
            have HV:Hid (SO=false):=by show _=_; rw[uh HS]; simp[selB,empT,he,nc]
            clear HS
            go_wp2
            go_ret
            exact⟨by rw[uh HV]; rfl,uh HB _⟩
          ·skip
           have nb1:(b != 0)=true:=by simp[nb]
           have nb2:(b == 0)=false:=by simp[nb]
           have HV:Hid (SO=false):=by show _=_; rw[uh HS]; simp[selB,empT,he,nb]
           clear HS
           go_wp2
           go_ret
           exact⟨by rw[uh HV]; rfl,uh HB _⟩
end Go.Proofs.YtkjcgkfejdogbaaGreatDoor
