import Derived.Test.YtkjcgkfejdogbaaGreatDoorBz12
import Derived.BigQuiet
import Derived.Test.YtkjcgkfejdogbaaGreatDoorBz11
import Derived.Test.YtkjcgkfejdogbaaGreatDoorBz1
import Derived.Laws.EntriesVeiled
import Derived.Deep.RegionHeld
import Derived.Deep.RegionLaw
import Derived.Deep.RegionHeld3
import Derived.Test.YtkjcgkfejdogbaaGreatDoorBz6
import Derived.Laws.AppendOwnNone
import Derived.Lib.SliceRun
set_option maxRecDepth 100000
set_option maxHeartbeats 8000000
namespace Go.Proofs.YtkjcgkfejdogbaaGreatDoor
open Go.RowKit
def segOk (g:PSeg) : Bool:=decide (1≤g.sels.length) && decide (g.sels.length≤1000) && g.sels.all selOk
def pathOk (ms:List PSeg) : Bool:=decide (ms.length≤1000) && ms.all segOk
theorem sz_seg {ms:List PSeg} (h:szSegs ms≤1048576) {g:PSeg} (hg:g∈ms) : szSels g.sels≤1048576:=by
 have h1:=sum_mem szSeg hg
 have e1:szSeg g=szSels g.sels:=rfl
 have e2:szSegs ms=ms.length+(ms.map szSeg).sum:=rfl
 omega
theorem sz_sel {l:List PSel} (h:szSels l≤1048576) {o:PSel} (ho:o∈l) : szSel o≤1048576:=by
 have h1:=sum_mem szSel ho
 have e2:szSels l=l.length+(l.map szSel).sum:=rfl
 omega
theorem specPathOk_walk (v:Value) (ms:List PSeg) (bl:List Nat) (w:World) (h:ORow segTl w v ms bl) (hs:szSegs ms≤1048576) :
  Calls Tryz.prog 5 #[v] w fun e w'=>e = .returned (.bool (pathOk ms))∧Below w.heap.size w w':=by
 obtain⟨a,c,rfl,-,hxa⟩:=h.form
 have hlen:ms.length≤1048576:=by unfold szSegs at hs; omega
 have hlI:(ms.length:Int)≤1048576:=by omega
 by_cases hbig:(1000:Int) < (ms.length:Int)
 ·have HV:Hid (pathOk ms=false):=by show _=_; unfold pathOk; rw[decide_eq_false (show ¬ ms.length≤1000 by omega)]; rfl
  clear h hxa hs
  go_enter Tryz.func5,Tryz.ntmps5
  go_wp2
  go_ret
  exact⟨by rw[uh HV]; rfl,Below.refl _ _⟩
 have HROW:Hid (∀ (wr:World) (i:Nat) (hi:i < ms.length),Below w.heap.size w wr→∃ g sa sc,a=some ⟨g,0,none⟩∧(∀ w',Below w.heap.size w w'→w'.cell? ⟨g,i*2+1,none⟩=some (.slice sa ms[i].sels.length sc)) ∧
   ∀ (w':World) (k:Nat) (hk:k < ms[i].sels.length),Below w.heap.size w w'→∃ g' q,sa=some ⟨g',0,none⟩∧w'.cell? ⟨g',k*9,none⟩=some (.int .i64 ms[i].sels[k].k)∧w'.cell? ⟨g',k*9+1,none⟩=some (.string ms[i].sels[k].name)∧w'.cell? ⟨g',k*9+2,none⟩=some (.bool ms[i].sels[k].hasA)∧w'.cell? ⟨g',k*9+3,none⟩=some (.bool ms[i].sels[k].hasB)∧w'.cell? ⟨g',k*9+4,none⟩=some (.bool ms[i].sels[k].hasC)∧w'.cell? ⟨g',k*9+5,none⟩=some (.int .i64 ms[i].sels[k].a)∧w'.cell? ⟨g',k*9+6,none⟩=some (.int .i64 ms[i].sels[k].b)∧w'.cell? ⟨g',k*9+7,none⟩=some (.int .i64 ms[i].sels[k].c)∧w'.cell? ⟨g',k*9+8,none⟩=some q ∧
    Calls Tryz.prog 15 #[.agg #[.int .i64 ms[i].sels[k].k,.string ms[i].sels[k].name,.bool ms[i].sels[k].hasA,.bool ms[i].sels[k].hasB,.bool ms[i].sels[k].hasC,.int .i64 ms[i].sels[k].a,.int .i64 ms[i].sels[k].b,.int .i64 ms[i].sels[k].c,q]] w' fun e w''=>e = .returned (.bool (selOk ms[i].sels[k]))∧Below w'.heap.size w' w''):=by
  intro wr i hi hb
  obtain⟨g,rfl⟩:=hxa (by omega)
  obtain⟨vs,ib,hE,hc,-,-,-⟩:=h.at (List.getElem?_eq_getElem hi)
  obtain⟨q,rfl,hr⟩:=hE
  obtain⟨sa,sc,rfl,-,hsx⟩:=hr.form
  refine⟨g,sa,sc,rfl,fun w' hb'=>?_,fun w' k hk hb'=>?_⟩
  ·have h1:=(hc 1 _ rfl).1
   exact (hb'.cell (World.block_lt_of_cell? _ _ h1)).trans h1
  ·obtain⟨g',rfl⟩:=hsx (by omega)
   obtain⟨vs2,ib2,hE2,hc2,-,-,-⟩:=(hr.below hb').at (List.getElem?_eq_getElem hk)
   obtain⟨q2,rfl,hr2⟩:=hE2
   exact⟨g',q2,rfl,(hc2 0 _ rfl).1,(hc2 1 _ rfl).1,(hc2 2 _ rfl).1,(hc2 3 _ rfl).1,(hc2 4 _ rfl).1,(hc2 5 _ rfl).1,(hc2 6 _ rfl).1,(hc2 7 _ rfl).1,(hc2 8 _ rfl).1,selOk_walk _ q2 ib2 w' hr2 (sz_sel (sz_seg hs (List.getElem_mem hi)) (List.getElem_mem hk))⟩
 have HNO:Hid (∀ i (hi:i < ms.length),segOk ms[i]=false→pathOk ms=false):=fun i hi e=>by unfold pathOk; rw[all_no hi e,Bool.and_false]
 have HYES:Hid ((∀ i (hi:i < ms.length),segOk ms[i]=true)→pathOk ms=true):=fun e=>by unfold pathOk; rw[all_yes e,decide_eq_true (by omega)]; rfl
 have HSL:Hid (∀ i (hi:i < ms.length),ms[i].sels.length≤1048576):=fun i hi=>by
  have:=sz_seg hs (List.getElem_mem hi)
  unfold szSels at this
  omega
 clear h hxa hs
 generalize pathOk ms=PO at *
 go_enter Tryz.func5,Tryz.ntmps5
 go_wp2_with fail
 go_loopw [3] (fun iv wr=>∃ i:Nat,i≤ms.length∧iv = .int .i64 (i:Int)∧Below w.heap.size w wr∧Hid (∀ x (hx:x < ms.length),x < i→segOk ms[x]=true)) (fun i _=>ms.length - (intOf i).toNat)
 case atStart=>exact⟨0,by omega,rfl,Below.refl _ _,fun x _ hx=>by omega⟩
 case round=>
  obtain⟨i,hi,rfl,hb,hd⟩:=hrel
  by_cases hlt:i < ms.length
  ·have hltI:(i:Int) < (ms.length:Int):=by omega
   obtain⟨g,sa,sc,rfl,hc1,hin⟩:=uh HROW _ i hlt hb
   have HC1:=hide hc1
   have HIN:=hide hin
   have HJY:Hid (segOk ms[i]=true→∀ x (hx:x < ms.length),x < i+1→segOk ms[x]=true):=fun e x hx h=>by
    by_cases ex:x=i
    ·subst ex; exact e
    ·exact uh hd x hx (by omega)
   have HJN:Hid (segOk ms[i]=false→PO=false):=uh HNO i hlt
   have hsl:=uh HSL i hlt
   clear hc1 hin hd HNO HROW HYES HSL
   generalize ms[i]=G at *
   have hslI:(G.sels.length:Int)≤1048576:=by omega
   have e1:=uh HC1 _ hb
   have HBI:=hide hb
   clear hb
   by_cases n1:(G.sels.length:Int) < 1
   ·have HQ:=hide (uh HJN (by unfold segOk; rw[decide_eq_false (show ¬ 1≤G.sels.length by omega)]; rfl))
    clear HC1 HIN HJY HJN
    go_wp2
    go_ret
    exact⟨by rw[uh HQ]; rfl,uh HBI⟩
   by_cases n2:(1000:Int) < (G.sels.length:Int)
   ·have HQ:=hide (uh HJN (by unfold segOk; rw[decide_eq_false (show ¬ G.sels.length≤1000 by omega),Bool.and_false]; rfl))
    clear HC1 HIN HJY HJN
    go_wp2
    go_ret
    exact⟨by rw[uh HQ]; rfl,uh HBI⟩
   have HSN:Hid (∀ k (hk:k < G.sels.length),selOk G.sels[k]=false→PO=false):=fun k hk e=>uh HJN (by unfold segOk; rw[all_no hk e,Bool.and_false])
   have HSY:Hid ((∀ k (hk:k < G.sels.length),selOk G.sels[k]=true)→∀ x (hx:x < ms.length),x < i+1→segOk ms[x]=true):=fun e=>uh HJY (by unfold segOk; rw[all_yes e,decide_eq_true (by omega),decide_eq_true (by omega)]; rfl)
   clear HJY HJN
   go_wp2_with fail
   go_loopw [5] (fun kv w2=>∃ k:Nat,k≤G.sels.length∧kv = .int .i64 (k:Int)∧Below w.heap.size w w2∧Hid (∀ x (hx:x < G.sels.length),x < k→selOk G.sels[x]=true)) (fun k _=>G.sels.length - (intOf k).toNat)
   case atStart=>exact⟨0,by omega,rfl,uh HBI,fun x _ hx=>by omega⟩
   case round=>
    obtain⟨k,hk,rfl,hb2,hd2⟩:=hrel
    by_cases hlt2:k < G.sels.length
    ·have hlt2I:(k:Int) < (G.sels.length:Int):=by omega
     obtain⟨g',q,rfl,d0,d1,d2,d3,d4,d5,d6,d7,d8,hcall⟩:=uh HIN _ k hlt2 hb2
     have e2:=uh HC1 _ hb2
     have HC:=hide hcall
     have HBW:=hide hb2
     have HKY:Hid (selOk G.sels[k]=true→∀ x (hx:x < G.sels.length),x < k+1→selOk G.sels[x]=true):=fun e x hx h=>by
      by_cases ex:x=k
      ·subst ex; exact e
      ·exact uh hd2 x hx (by omega)
     have HKN:Hid (selOk G.sels[k]=false→PO=false):=uh HSN k hlt2
     clear hcall hb2 hd2 HSN HSY HIN HC1
     generalize G.sels[k]=P at *
     go_wp2_with fail
     refine (uh HC).mono ?_
     rintro e w1 ⟨rfl,b1⟩
     have HB2:=hide (below_next (uh HBW) b1)
     clear HC b1 d0 d1 d2 d3 d4 d5 d6 d7 d8 e2 HBW
     cases hst:selOk P with
     | true=>
      have HD:=hide (uh HKY hst)
      clear hst HKY HKN
      go_wp2
      go_roundw
      case rel=>exact⟨k+1,by omega,by go_num,uh HB2,HD⟩
      case measure=>simp[intOf]; omega
     | false=>
      have HQ:=hide (uh HKN hst)
      clear hst HKY HKN
      go_wp2
      go_ret
      exact⟨by rw[uh HQ]; rfl,uh HB2⟩
    ·have HD:=hide (uh HSY fun x hx=>uh hd2 x hx (by omega))
     have HBW:=hide hb2
     clear hb2 hd2 HSN HSY HIN HC1
     go_wp2
     go_roundw
     case rel=>exact⟨i+1,by omega,by go_num,uh HBW,HD⟩
     case measure=>simp[intOf]; omega
  ·have HQ:=hide (uh HYES fun x hx=>uh hd x hx (by omega))
   have HBW:=hide hb
   clear hb hd HNO HROW HYES HSL
   go_wp2
   go_ret
   exact⟨by rw[uh HQ]; rfl,uh HBW⟩
theorem below_dN {B:Nat} {a w:World} (h:Below B a w) (n:Nat) : Below B a (w.drewN n):=⟨h.os,h.tape,h.output,h.size,h.block⟩
theorem sameSteps_walk (v u:Value) (ms:List PStep) (bl cl:List Nat) (w:World) (h:ORow stepE w v ms bl) (k:ORow stepE w u ms cl) :
  Calls Tryz.prog 72 #[v,u] w fun e w'=>e = .returned (.bool true)∧Below w.heap.size w w':=by
 have hl:=h.len
 unfold maxLen at hl
 obtain⟨xa,xc,rfl,-,hxa⟩:=h.form
 obtain⟨ya,yc,rfl,-,hya⟩:=k.form
 have H:=hide h
 have K:=hide k
 have HXA:=hide hxa
 have HYA:=hide hya
 clear h k hxa hya
 go_enter Tryz.func72,Tryz.ntmps72
 go_wp2
 go_loopw [5] (fun i wr=>∃ j:Nat,i = .int .i64 (j:Int)∧j≤ms.length∧Below w.heap.size w wr) (fun i _=>ms.length - (intOf i).toNat)
 case atStart=>exact⟨0,rfl,Nat.zero_le _,Below.refl _ _⟩
 case round=>
  obtain⟨j,rfl,hj,hb⟩:=hrel
  have HB:=hide hb
  by_cases hlt:j < ms.length
  ·have hltI:(j:Int) < (ms.length:Int):=by omega
   obtain⟨g,rfl⟩:=uh HXA (by omega)
   obtain⟨g',rfl⟩:=uh HYA (by omega)
   obtain⟨vs,ib,hE,hc,-⟩:=((uh H).below hb).at (List.getElem?_eq_getElem hlt)
   obtain⟨rfl,-⟩:=hE
   obtain⟨vs,ib,hE,hc',-⟩:=((uh K).below hb).at (List.getElem?_eq_getElem hlt)
   obtain⟨rfl,-⟩:=hE
   have c0:wr.cell? ⟨g,j*3,none⟩=some (.bool ms[j].byI):=(hc 0 _ rfl).1
   have c1:wr.cell? ⟨g,j*3+1,none⟩=some (.string ms[j].name):=(hc 1 _ rfl).1
   have c2:wr.cell? ⟨g,j*3+2,none⟩=some (.int .i64 ms[j].idx):=(hc 2 _ rfl).1
   have d0:wr.cell? ⟨g',j*3,none⟩=some (.bool ms[j].byI):=(hc' 0 _ rfl).1
   have d1:wr.cell? ⟨g',j*3+1,none⟩=some (.string ms[j].name):=(hc' 1 _ rfl).1
   have d2:wr.cell? ⟨g',j*3+2,none⟩=some (.int .i64 ms[j].idx):=(hc' 2 _ rfl).1
   generalize ms[j]=o at *
   clear hc hc' hb
   go_wp2_with fail
   go_quiet (fail)
   have HBN:Hid (Below w.heap.size w (wr.drewN nq)):=below_dN (uh HB) nq
   clear c0 c1 c2 d0 d1 d2
   go_wp2
   go_roundw
   case rel=>exact⟨j+1,by go_num,by omega,uh HBN⟩
   case measure=>simp[intOf]; omega
  ·have hltI:¬ (j:Int) < (ms.length:Int):=by omega
   go_wp2
   go_ret
   exact⟨rfl,uh HB⟩
theorem sameCond_walk (v u:Value) (ms:List PFOp) (bl cl:List Nat) (w:World) (h:ORow fopE w v ms bl) (k:ORow fopE w u ms cl) :
  Calls Tryz.prog 50 #[v,u] w fun e w'=>e = .returned (.bool true)∧Below w.heap.size w w':=by
 have hl:=h.len
 unfold maxLen at hl
 obtain⟨xa,xc,rfl,-,hxa⟩:=h.form
 obtain⟨ya,yc,rfl,-,hya⟩:=k.form
 have H:=hide h
 have K:=hide k
 have HXA:=hide hxa
 have HYA:=hide hya
 clear h k hxa hya
 go_enter Tryz.func50,Tryz.ntmps50
 go_wp2
 go_loopw [5] (fun i wr=>∃ j:Nat,i = .int .i64 (j:Int)∧j≤ms.length∧Below w.heap.size w wr) (fun i _=>ms.length - (intOf i).toNat)
 case atStart=>exact⟨0,rfl,Nat.zero_le _,Below.refl _ _⟩
 case round=>
  obtain⟨j,rfl,hj,hb⟩:=hrel
  have HB:=hide hb
  by_cases hlt:j < ms.length
  ·have hltI:(j:Int) < (ms.length:Int):=by omega
   obtain⟨g,rfl⟩:=uh HXA (by omega)
   obtain⟨g',rfl⟩:=uh HYA (by omega)
   obtain⟨vs,ib,hE,hc,-⟩:=((uh H).below hb).at (List.getElem?_eq_getElem hlt)
   obtain⟨q,rfl,hs⟩:=hE
   obtain⟨vs,ib',hE,hc',-⟩:=((uh K).below hb).at (List.getElem?_eq_getElem hlt)
   obtain⟨q',rfl,hs'⟩:=hE
   have c0:wr.cell? ⟨g,j*5,none⟩=some (.int .i64 ms[j].k):=(hc 0 _ rfl).1
   have c1:wr.cell? ⟨g,j*5+1,none⟩=some (.int .i64 ms[j].n):=(hc 1 _ rfl).1
   have c2:wr.cell? ⟨g,j*5+2,none⟩=some (.string ms[j].s):=(hc 2 _ rfl).1
   have c3:wr.cell? ⟨g,j*5+3,none⟩=some (.bool ms[j].root):=(hc 3 _ rfl).1
   have c4:wr.cell? ⟨g,j*5+4,none⟩=some q:=(hc 4 _ rfl).1
   have d0:wr.cell? ⟨g',j*5,none⟩=some (.int .i64 ms[j].k):=(hc' 0 _ rfl).1
   have d1:wr.cell? ⟨g',j*5+1,none⟩=some (.int .i64 ms[j].n):=(hc' 1 _ rfl).1
   have d2:wr.cell? ⟨g',j*5+2,none⟩=some (.string ms[j].s):=(hc' 2 _ rfl).1
   have d3:wr.cell? ⟨g',j*5+3,none⟩=some (.bool ms[j].root):=(hc' 3 _ rfl).1
   have d4:wr.cell? ⟨g',j*5+4,none⟩=some q':=(hc' 4 _ rfl).1
   have hgl:=World.block_lt_of_cell? _ _ d0
   have HC:Hid (∀ A B,Calls Tryz.prog 72 #[q,q'] ((wr.alloc A).alloc B) fun e w'=>e = .returned (.bool true)∧Below ((wr.alloc A).alloc B).heap.size ((wr.alloc A).alloc B) w'):=fun A B=>
    sameSteps_walk q q' _ ib ib' _ ((hs.below (alloc_b wr A)).below (alloc_b _ B)) ((hs'.below (alloc_b wr A)).below (alloc_b _ B))
   have HBA:Hid (∀ A B w',Below ((wr.alloc A).alloc B).heap.size ((wr.alloc A).alloc B) w'→Below w.heap.size w w'):=fun A B w' h=>below_next (below_next (below_next hb (alloc_b wr A)) (alloc_b _ B)) h
   obtain⟨qa,qc,rfl,-,-⟩:=hs.form
   obtain⟨ra,rc,rfl,-,-⟩:=hs'.form
   generalize ms[j]=o at *
   clear hc hc' hb hs hs'
   go_wp2_with fail
   refine (uh HC _ _).mono ?_
   rintro e w1 ⟨rfl,b1⟩
   have HBN:=hide (uh HBA _ _ _ b1)
   clear c0 c1 c2 c3 c4 d0 d1 d2 d3 d4 HC HBA b1
   go_wp2
   go_roundw
   case rel=>exact⟨j+1,by go_num,by omega,uh HBN⟩
   case measure=>simp[intOf]; omega
  ·have hltI:¬ (j:Int) < (ms.length:Int):=by omega
   go_wp2
   go_ret
   exact⟨rfl,uh HB⟩
theorem sameSel_walk (v u:Value) (m:PSel) (bl cl:List Nat) (w:World) (h:ORow fopE w v m.cond bl) (k:ORow fopE w u m.cond cl) :
  Calls Tryz.prog 26 #[.agg #[.int .i64 m.k,.string m.name,.bool m.hasA,.bool m.hasB,.bool m.hasC,.int .i64 m.a,.int .i64 m.b,.int .i64 m.c,v],.agg #[.int .i64 m.k,.string m.name,.bool m.hasA,.bool m.hasB,.bool m.hasC,.int .i64 m.a,.int .i64 m.b,.int .i64 m.c,u]] w fun e w'=>e = .returned (.bool true)∧Below w.heap.size w w':=by
 have HC:Hid (∀ A B,Calls Tryz.prog 50 #[v,u] ((w.alloc A).alloc B) fun e w'=>e = .returned (.bool true)∧Below ((w.alloc A).alloc B).heap.size ((w.alloc A).alloc B) w'):=fun A B=>
  sameCond_walk v u _ bl cl _ ((h.below (alloc_b w A)).below (alloc_b _ B)) ((k.below (alloc_b w A)).below (alloc_b _ B))
 have HBA:Hid (∀ A B w',Below ((w.alloc A).alloc B).heap.size ((w.alloc A).alloc B) w'→Below w.heap.size w w'):=fun A B w' h=>below_next (below_next (alloc_b w A) (alloc_b _ B)) h
 obtain⟨qa,qc,rfl,-,-⟩:=h.form
 obtain⟨ra,rc,rfl,-,-⟩:=k.form
 clear h k
 go_enter Tryz.func26,Tryz.ntmps26
 go_wp2_with fail
 refine (uh HC _ _).mono ?_
 rintro e w1 ⟨rfl,b1⟩
 have HBN:=hide (uh HBA _ _ _ b1)
 clear HC HBA b1
 go_wp2
 go_ret
 exact⟨rfl,uh HBN⟩
theorem sameSegs_walk (v u:Value) (ms:List PSeg) (bl cl:List Nat) (w:World) (h:ORow segE w v ms bl) (k:ORow segE w u ms cl) :
  Calls Tryz.prog 11 #[v,u] w fun e w'=>e = .returned (.bool true)∧Below w.heap.size w w':=by
 have hl:=h.len
 unfold maxLen at hl
 obtain⟨xa,xc,rfl,-,hxa⟩:=h.form
 obtain⟨ya,yc,rfl,-,hya⟩:=k.form
 have H:=hide h
 have K:=hide k
 have HXA:=hide hxa
 have HYA:=hide hya
 clear h k hxa hya
 go_enter Tryz.func11,Tryz.ntmps11
 go_wp2
 go_loopw [5] (fun i wr=>∃ j:Nat,i = .int .i64 (j:Int)∧j≤ms.length∧Below w.heap.size w wr) (fun i _=>ms.length - (intOf i).toNat)
 case atStart=>exact⟨0,rfl,Nat.zero_le _,Below.refl _ _⟩
 case round=>
  obtain⟨j,rfl,hj,hb⟩:=hrel
  have HB:=hide hb
  by_cases hlt:j < ms.length
  ·have hltI:(j:Int) < (ms.length:Int):=by omega
   obtain⟨g,rfl⟩:=uh HXA (by omega)
   obtain⟨g',rfl⟩:=uh HYA (by omega)
   have RA:∃ q,(∀ wk,Below w.heap.size w wk→wk.cell? ⟨g,j*2,none⟩=some (.bool ms[j].deep)∧wk.cell? ⟨g,j*2+1,none⟩=some q)∧∃ ib,ORow selE w q ms[j].sels ib:=by
    obtain⟨vs,ib,hE,hc,-⟩:=(uh H).at (List.getElem?_eq_getElem hlt)
    obtain⟨q,rfl,hs⟩:=hE
    refine⟨q,fun wk hk=>⟨?_,?_⟩,ib,hs⟩
    ·have h1:=(hc 0 _ rfl).1
     exact (hk.cell (World.block_lt_of_cell? _ _ h1)).trans h1
    ·have h1:=(hc 1 _ rfl).1
     exact (hk.cell (World.block_lt_of_cell? _ _ h1)).trans h1
   have RB:∃ q,(∀ wk,Below w.heap.size w wk→wk.cell? ⟨g',j*2,none⟩=some (.bool ms[j].deep)∧wk.cell? ⟨g',j*2+1,none⟩=some q)∧∃ ib,ORow selE w q ms[j].sels ib:=by
    obtain⟨vs,ib,hE,hc,-⟩:=(uh K).at (List.getElem?_eq_getElem hlt)
    obtain⟨q,rfl,hs⟩:=hE
    refine⟨q,fun wk hk=>⟨?_,?_⟩,ib,hs⟩
    ·have h1:=(hc 0 _ rfl).1
     exact (hk.cell (World.block_lt_of_cell? _ _ h1)).trans h1
    ·have h1:=(hc 1 _ rfl).1
     exact (hk.cell (World.block_lt_of_cell? _ _ h1)).trans h1
   obtain⟨q,ca,ia,sa⟩:=RA
   obtain⟨p,cb,ib,sb⟩:=RB
   have hsl:=sa.len
   unfold maxLen at hsl
   obtain⟨qa,qc,rfl,-,hqa⟩:=sa.form
   obtain⟨pa,pc,rfl,-,hpa⟩:=sb.form
   have CA:=hide ca
   have CB:=hide cb
   have SA:=hide sa
   have SB:=hide sb
   have HQA:=hide hqa
   have HPA:=hide hpa
   obtain⟨c0,c1⟩:=ca wr hb
   obtain⟨d0,d1⟩:=cb wr hb
   generalize ms[j]=G at *
   clear hb ca cb sa sb hqa hpa
   go_wp2_with fail
   go_quiet (fail)
   have HBN:Hid (Below w.heap.size w (wr.drewN nq)):=below_dN (uh HB) nq
   clear c0 c1 d0 d1 HB
   generalize wr.drewN nq=wn at *
   go_wp2_with fail
   go_loopw [6] (fun kv wk=>∃ k:Nat,kv = .int .i64 (k:Int)∧k≤G.sels.length∧Below w.heap.size w wk) (fun kv _=>G.sels.length - (intOf kv).toNat)
   case atStart=>exact⟨0,rfl,Nat.zero_le _,uh HBN⟩
   case round=>
    obtain⟨k,rfl,hk,hb⟩:=hrel
    obtain⟨e0,e1⟩:=uh CA _ hb
    by_cases hkt:k < G.sels.length
    ·have hktI:(k:Int) < (G.sels.length:Int):=by omega
     obtain⟨g3,rfl⟩:=uh HQA (by omega)
     obtain⟨g4,rfl⟩:=uh HPA (by omega)
     obtain⟨m0,m1⟩:=uh CB _ hb
     obtain⟨vs,jb,hE,hc,-⟩:=((uh SA).below hb).at (List.getElem?_eq_getElem hkt)
     obtain⟨q,rfl,hs⟩:=hE
     obtain⟨vs,jb',hE,hc',-⟩:=((uh SB).below hb).at (List.getElem?_eq_getElem hkt)
     obtain⟨q',rfl,hs'⟩:=hE
     have x0:wr.cell? ⟨g3,k*9,none⟩=some (.int .i64 G.sels[k].k):=(hc 0 _ rfl).1
     have x1:wr.cell? ⟨g3,k*9+1,none⟩=some (.string G.sels[k].name):=(hc 1 _ rfl).1
     have x2:wr.cell? ⟨g3,k*9+2,none⟩=some (.bool G.sels[k].hasA):=(hc 2 _ rfl).1
     have x3:wr.cell? ⟨g3,k*9+3,none⟩=some (.bool G.sels[k].hasB):=(hc 3 _ rfl).1
     have x4:wr.cell? ⟨g3,k*9+4,none⟩=some (.bool G.sels[k].hasC):=(hc 4 _ rfl).1
     have x5:wr.cell? ⟨g3,k*9+5,none⟩=some (.int .i64 G.sels[k].a):=(hc 5 _ rfl).1
     have x6:wr.cell? ⟨g3,k*9+6,none⟩=some (.int .i64 G.sels[k].b):=(hc 6 _ rfl).1
     have x7:wr.cell? ⟨g3,k*9+7,none⟩=some (.int .i64 G.sels[k].c):=(hc 7 _ rfl).1
     have x8:wr.cell? ⟨g3,k*9+8,none⟩=some (q):=(hc 8 _ rfl).1
     have y0:wr.cell? ⟨g4,k*9,none⟩=some (.int .i64 G.sels[k].k):=(hc' 0 _ rfl).1
     have y1:wr.cell? ⟨g4,k*9+1,none⟩=some (.string G.sels[k].name):=(hc' 1 _ rfl).1
     have y2:wr.cell? ⟨g4,k*9+2,none⟩=some (.bool G.sels[k].hasA):=(hc' 2 _ rfl).1
     have y3:wr.cell? ⟨g4,k*9+3,none⟩=some (.bool G.sels[k].hasB):=(hc' 3 _ rfl).1
     have y4:wr.cell? ⟨g4,k*9+4,none⟩=some (.bool G.sels[k].hasC):=(hc' 4 _ rfl).1
     have y5:wr.cell? ⟨g4,k*9+5,none⟩=some (.int .i64 G.sels[k].a):=(hc' 5 _ rfl).1
     have y6:wr.cell? ⟨g4,k*9+6,none⟩=some (.int .i64 G.sels[k].b):=(hc' 6 _ rfl).1
     have y7:wr.cell? ⟨g4,k*9+7,none⟩=some (.int .i64 G.sels[k].c):=(hc' 7 _ rfl).1
     have y8:wr.cell? ⟨g4,k*9+8,none⟩=some (q'):=(hc' 8 _ rfl).1
     have HC:=hide (sameSel_walk q q' G.sels[k] jb jb' wr.drew (hs.below (Below.refl _ _).drew) (hs'.below (Below.refl _ _).drew))
     have HBK:=hide hb
     obtain⟨za,zc,rfl,-,-⟩:=hs.form
     obtain⟨ta,tc,rfl,-,-⟩:=hs'.form
     clear hc hc' hs hs' hb
     generalize G.sels[k]=o at *
     go_wp2_with fail
     go_region_law (go_simp; refine (uh HC).mono ?_; rintro e w1 ⟨rfl,b1⟩)
     all_goals
      have HB1:Hid (Below w.heap.size w w1):=below_next (uh HBK) (below_next (Below.refl _ _).drew b1)
      clear b1 x0 x1 x2 x3 x4 x5 x6 x7 x8 y0 y1 y2 y3 y4 y5 y6 y7 y8 e0 e1 m0 m1 HC HBK
      go_wp2
      go_roundw
      case rel=>exact⟨k+1,by go_num,by omega,uh HB1⟩
      case measure=>simp[intOf]; omega
    ·have hktI:¬ (k:Int) < (G.sels.length:Int):=by omega
     have HBK:=hide hb
     clear hb
     go_wp2
     go_roundw
     case rel=>exact⟨j+1,by go_num,by omega,uh HBK⟩
     case measure=>simp[intOf]; omega
  ·have hltI:¬ (j:Int) < (ms.length:Int):=by omega
   go_wp2
   go_ret
   exact⟨rfl,uh HB⟩
theorem goodInt_walk (n:Int) (w:World) : Calls Tryz.prog 77 #[.int .i64 n] w fun e w'=>e = .returned (.bool (rangeI n))∧w=w':=by
 unfold rangeI
 by_cases h1 : -1000000000 < n
 ·by_cases h2:n < 1000000000
  ·have t1:decide (-1000000000 < n)=true:=decide_eq_true h1
   have t2:decide (n < 1000000000)=true:=decide_eq_true h2
   rw[t1,t2]
   go_enter Tryz.func77,Tryz.ntmps77
   go_wp2
   go_ret
   exact⟨rfl,rfl⟩
  ·have t1:decide (-1000000000 < n)=true:=decide_eq_true h1
   have t2:decide (n < 1000000000)=false:=decide_eq_false h2
   rw[t1,t2]
   go_enter Tryz.func77,Tryz.ntmps77
   go_wp2
   go_ret
   exact⟨rfl,rfl⟩
 ·have t1:decide (-1000000000 < n)=false:=decide_eq_false h1
  rw[t1]
  go_enter Tryz.func77,Tryz.ntmps77
  go_wp2
  go_ret
  exact⟨rfl,rfl⟩
theorem goodText_walk (s:ByteArray) (w:World) (hs:s.size≤1048576) : Calls Tryz.prog 76 #[.string s] w fun e w'=>e = .returned (.bool (plainT s))∧w=w':=by
 by_cases hl:(1000:Int) < (s.size:Int)
 ·have HQ:Hid (plainT s=false):=by
   show plainT s=false
   unfold plainT
   rw[decide_eq_false (show ¬ s.size≤1000 by omega),Bool.and_false]
  go_enter Tryz.func76,Tryz.ntmps76
  go_wp2
  go_ret
  exact⟨by rw[uh HQ]; rfl,rfl⟩
 ·have HL:Hid (s.size≤1000):=by show _≤_; omega
  go_enter Tryz.func76,Tryz.ntmps76
  go_wp2
  go_loopw [9] (fun iv wr=>∃ k:Nat,k≤s.size∧iv = .int .i64 (k:Int)∧w=wr∧Hid (∀ j (hj:j < s.size),j < k→32≤s[j].toNat)) (fun iv _=>s.size - (intOf iv).toNat)
  case atStart=>exact⟨0,Nat.zero_le _,rfl,rfl,fun j _ hj=>by omega⟩
  case round=>
   obtain⟨k,hk,rfl,rfl,hd⟩:=hrel
   by_cases hlt:k < s.size
   ·have hltI:(k:Int) < (s.size:Int):=by omega
    by_cases hc:s[k].toNat < 32
    ·have hcI:((s[k].toNat:Nat) : Int) < 32:=by omega
     have HQ:Hid (plainT s=false):=by show plainT s=false; unfold plainT; rw[noLow_no hlt hc]; rfl
     clear hd
     go_wp2
     go_ret
     exact⟨by rw[uh HQ]; rfl,rfl⟩
    ·have hcI:¬ ((s[k].toNat:Nat) : Int) < 32:=by omega
     have HD:Hid (∀ j (hj:j < s.size),j < k+1→32≤s[j].toNat):=fun j hj h=>by
      by_cases e:j=k
      ·subst e; omega
      ·exact uh hd j hj (by omega)
     clear hd
     go_wp2
     go_roundw
     case rel=>exact⟨k+1,by omega,by go_num,trivial,HD⟩
     case measure=>simp[intOf]; omega
   ·have HQ:Hid (plainT s=true):=by
     show plainT s=_
     unfold plainT
     rw[noLow_yes fun j hj=>uh hd j hj (by omega),decide_eq_true (uh HL)]
     rfl
    clear hd
    go_wp2
    go_ret
    exact⟨by rw[uh HQ]; rfl,rfl⟩
theorem partsTaken_walk (k:Int) (w:World) : Calls Tryz.prog 78 #[.int .i64 k] w fun e w'=>e = .returned (.int .i64 (parts k:Int))∧w=w':=by
 unfold parts
 by_cases h9:k=9
 ·subst h9
  go_enter Tryz.func78,Tryz.ntmps78
  go_wp2
  go_ret
  exact⟨rfl,rfl⟩
 by_cases h10:k=10
 ·subst h10
  go_enter Tryz.func78,Tryz.ntmps78
  go_wp2
  go_ret
  exact⟨rfl,rfl⟩
 by_cases h11:k=11
 ·subst h11
  go_enter Tryz.func78,Tryz.ntmps78
  go_wp2
  go_ret
  exact⟨rfl,rfl⟩
 rw[if_neg (by omega)]
 by_cases h12:k=12
 ·subst h12
  rw[if_pos rfl]
  go_enter Tryz.func78,Tryz.ntmps78
  go_wp2
  go_ret
  exact⟨rfl,rfl⟩
 ·rw[if_neg h12]
  go_enter Tryz.func78,Tryz.ntmps78
  go_wp2
  go_ret
  exact⟨rfl,rfl⟩
theorem isRef_walk (k:Int) (w:World) : Calls Tryz.prog 97 #[.int .i64 k] w fun e w'=>e = .returned (.bool (isRefK k))∧w=w':=by
 by_cases h6:k=6
 ·subst h6
  go_enter Tryz.func97,Tryz.ntmps97
  go_wp2
  go_ret
  exact⟨rfl,rfl⟩
 by_cases h7:k=7
 ·subst h7
  go_enter Tryz.func97,Tryz.ntmps97
  go_wp2
  go_ret
  exact⟨rfl,rfl⟩
 by_cases h8:k=8
 ·subst h8
  go_enter Tryz.func97,Tryz.ntmps97
  go_wp2
  go_ret
  exact⟨rfl,rfl⟩
 go_enter Tryz.func97,Tryz.ntmps97
 go_wp2
 go_ret
 exact⟨rfl,rfl⟩
theorem badStep_walk (m:PStep) (w:World) (hs:m.name.size≤1048576) : Calls Tryz.prog 99 #[.agg #[.bool m.byI,.string m.name,.int .i64 m.idx]] w fun e w'=>e = .returned (.bool (!stepOk m))∧Below w.heap.size w w':=by
 have HR:Hid (∀ w,Calls Tryz.prog 77 #[.int .i64 m.idx] w fun e w'=>e = .returned (.bool (rangeI m.idx))∧w=w'):=fun w=>goodInt_walk _ w
 have HP:Hid (∀ w,Calls Tryz.prog 76 #[.string m.name] w fun e w'=>e = .returned (.bool (plainT m.name))∧w=w'):=fun w=>goodText_walk _ w hs
 have HE:Hid (stepOk m=if m.byI=true then empT m.name && rangeI m.idx else (m.idx == 0) && plainT m.name):=rfl
 have HB:Hid (∀ o,Below w.heap.size w (w.alloc o)):=fun o=>alloc_b w o
 generalize rangeI m.idx=R at *
 generalize plainT m.name=Q at *
 obtain⟨b,s,n⟩:=m
 simp only at *
 cases b with
 | true=>
  cases he:s.toList.isEmpty with
  | true=>
   have HX:Hid ((!stepOk ⟨true,s,n⟩) = !R):=by show _=_; rw[uh HE]; unfold empT; rw[he]; simp
   clear HE HP
   go_enter Tryz.func99,Tryz.ntmps99
   go_wp2_with fail
   refine (uh HR _).mono ?_
   rintro e w1 ⟨rfl,rfl⟩
   go_wp2
   go_ret
   exact⟨by rw[uh HX]; rfl,uh HB _⟩
  | false=>
   have HX:Hid ((!stepOk ⟨true,s,n⟩)=true):=by show _=_; rw[uh HE]; unfold empT; rw[he]; simp
   clear HE HP HR
   go_enter Tryz.func99,Tryz.ntmps99
   go_wp2
   go_ret
   exact⟨by rw[uh HX]; rfl,uh HB _⟩
 | false=>
  by_cases hn:n=0
  ·subst hn
   have HX:Hid ((!stepOk ⟨false,s,0⟩) = !Q):=by show _=_; rw[uh HE]; simp
   clear HE HR
   go_enter Tryz.func99,Tryz.ntmps99
   go_wp2_with fail
   refine (uh HP _).mono ?_
   rintro e w1 ⟨rfl,rfl⟩
   go_wp2
   go_ret
   exact⟨by rw[uh HX]; rfl,uh HB _⟩
  ·have HX:Hid ((!stepOk ⟨false,s,n⟩)=true):=by show _=_; rw[uh HE]; simp[hn]
   clear HE HR HP
   go_enter Tryz.func99,Tryz.ntmps99
   go_wp2
   go_ret
   exact⟨by rw[uh HX]; rfl,uh HB _⟩
theorem comparisons_walk (w:World) : Calls Tryz.prog 84 #[] w fun e w'=>∃ g,e = .returned (.slice (some ⟨g,0,none⟩) 6 6)∧Below w.heap.size w w':=by
 have HB:Hid (∀ o,Below w.heap.size w (w.alloc o)):=fun o=>alloc_b w o
 go_enter Tryz.func84,Tryz.ntmps84
 go_wp2
 go_ret
 exact⟨_,rfl,uh HB _⟩
theorem indexStep_walk (v:Value) (st:List PStep) (bl:List Nat) (w:World) (h:ORow stepE w v st bl) (hl:st.length≤1000) (hns:∀ p∈st,p.name.size≤1048576) :
  Calls Tryz.prog 114 #[v,.func (Fn.func 99) #[] #[]] w fun e w'=>∃ i,e = .returned (.int .i64 i)∧decide (0≤i)=(!st.all stepOk)∧Below w.heap.size w w':=by
 obtain⟨a,c,rfl,-,hxa⟩:=h.form
 have HROW:Hid (∀ (wr:World) (j:Nat) (hj:j < st.length),Below w.heap.size w wr→∃ g,a=some ⟨g,0,none⟩∧wr.cell? ⟨g,j*3,none⟩=some (.bool st[j].byI)∧wr.cell? ⟨g,j*3+1,none⟩=some (.string st[j].name)∧wr.cell? ⟨g,j*3+2,none⟩=some (.int .i64 st[j].idx) ∧
   Calls Tryz.prog 99 #[.agg #[.bool st[j].byI,.string st[j].name,.int .i64 st[j].idx]] wr fun e w'=>e = .returned (.bool (!stepOk st[j]))∧Below wr.heap.size wr w'):=by
  intro wr j hj hb
  obtain⟨g,rfl⟩:=hxa (by omega)
  obtain⟨vs,ib,hE,hc,-,-,-⟩:=(h.below hb).at (List.getElem?_eq_getElem hj)
  obtain⟨rfl,-⟩:=hE
  exact⟨g,rfl,(hc 0 _ rfl).1,(hc 1 _ rfl).1,(hc 2 _ rfl).1,badStep_walk _ wr (hns _ (List.getElem_mem hj))⟩
 have HNO:Hid (∀ j (hj:j < st.length),stepOk st[j]=false→(!st.all stepOk)=true):=fun j hj e=>by rw[all_no hj e]; rfl
 have HYES:Hid ((∀ j (hj:j < st.length),stepOk st[j]=true)→(!st.all stepOk)=false):=fun e=>by rw[all_yes e]; rfl
 have hlI:(st.length:Int)≤1000:=by omega
 clear h hxa hns hl
 generalize (!st.all stepOk)=FO at *
 go_enter Tryz.func114,Tryz.ntmps114
 go_wp2_with fail
 go_loopw [8] (fun iv wr=>∃ j:Nat,j≤st.length∧iv = .int .i64 (j:Int)∧Below w.heap.size w wr∧Hid (∀ i (hi:i < st.length),i < j→stepOk st[i]=true)) (fun i _=>st.length - (intOf i).toNat)
 case atStart=>exact⟨0,by omega,rfl,Below.refl _ _,fun i _ hi=>by omega⟩
 case round=>
  obtain⟨j,hj,rfl,hb,hd⟩:=hrel
  by_cases hlt:j < st.length
  ·have hltI:(j:Int) < (st.length:Int):=by omega
   obtain⟨g,rfl,d0,d1,d2,hcall⟩:=uh HROW _ j hlt hb
   have HC:=hide hcall
   have HBW:=hide hb
   have HJY:Hid (stepOk st[j]=true→∀ i (hi:i < st.length),i < j+1→stepOk st[i]=true):=fun e i hi h=>by
    by_cases ei:i=j
    ·subst ei; exact e
    ·exact uh hd i hi (by omega)
   have HJN:Hid (stepOk st[j]=false→FO=true):=uh HNO j hlt
   clear hcall hb hd HNO HROW HYES
   generalize st[j]=P at *
   go_wp2_with fail
   refine (uh HC).mono ?_
   rintro e w1 ⟨rfl,b1⟩
   have HB2:=hide (below_next (uh HBW) b1)
   clear HC b1 d0 d1 d2 HBW
   cases hst:stepOk P with
   | true=>
    have HD:=hide (uh HJY hst)
    clear hst HJY HJN
    go_wp2
    go_roundw
    case rel=>exact⟨j+1,by omega,by go_num,uh HB2,HD⟩
    case measure=>simp[intOf]; omega
   | false=>
    have HQ:=hide (uh HJN hst)
    clear hst HJY HJN
    go_wp2
    go_ret
    exact⟨_,rfl,by rw[uh HQ]; exact decide_eq_true (by omega),uh HB2⟩
  ·have HQ:=hide (uh HYES fun i hi=>uh hd i hi (by omega))
   have HBW:=hide hb
   clear hb hd HNO HROW HYES
   go_wp2
   go_ret
   exact⟨_,rfl,by rw[uh HQ]; rfl,uh HBW⟩
theorem containsStep_walk (v:Value) (st:List PStep) (bl:List Nat) (w:World) (h:ORow stepE w v st bl) (hl:st.length≤1000) (hns:∀ p∈st,p.name.size≤1048576) :
  Calls Tryz.prog 98 #[v,.func (Fn.func 99) #[] #[]] w fun e w'=>e = .returned (.bool (!st.all stepOk))∧Below w.heap.size w w':=by
 have HC:=hide (indexStep_walk v st bl w h hl hns)
 obtain⟨a,c,rfl,-,-⟩:=h.form
 clear h hns
 generalize (!st.all stepOk)=FO at *
 go_enter Tryz.func98,Tryz.ntmps98
 go_wp2_with fail
 refine (uh HC).mono ?_
 rintro e w1 ⟨i,rfl,hi,b1⟩
 have HI:=hide hi
 have HB:=hide b1
 clear hi b1 HC
 go_wp2
 go_ret
 exact⟨by rw[← uh HI]; rfl,uh HB⟩
theorem goodNumber_walk (m:PFOp) (v:Value) (w:World) :
  Calls Tryz.prog 96 #[.agg #[.int .i64 m.k,.int .i64 m.n,.string m.s,.bool m.root,v]] w fun e w'=>e = .returned (.bool (numOk m.k m.n))∧Below w.heap.size w w':=by
 obtain⟨k,n,s,r,st⟩:=m
 simp only at *
 have HB:Hid (∀ o,Below w.heap.size w (w.alloc o)):=fun o=>alloc_b w o
 have HR:Hid (∀ w,Calls Tryz.prog 77 #[.int .i64 n] w fun e w'=>e = .returned (.bool (rangeI n))∧w=w'):=fun w=>goodInt_walk _ w
 by_cases h1:k=1
 ·subst h1
  have HV:Hid (numOk 1 n=rangeI n):=rfl
  go_enter Tryz.func96,Tryz.ntmps96
  go_wp2_with fail
  refine (uh HR _).mono ?_
  rintro e w1 ⟨rfl,rfl⟩
  go_wp2
  go_ret
  exact⟨by rw[uh HV]; rfl,uh HB _⟩
 by_cases h9:k=9
 ·subst h9
  clear HR h1
  obtain⟨w0,hw0⟩ : ∃ w0,w0=w.alloc (Obj.cells #[.int .i64 9,.int .i64 n,.string s,.bool r,v] 37 (0,0)):=⟨_,rfl⟩
  have HB0:Hid (Below w.heap.size w w0):=by rw[hw0]; exact uh HB _
  have HC:Hid (∀ w1,Below w0.heap.size w0 w1→w1.cell? ⟨w.heap.size,1,none⟩=some (.int .i64 n)):=fun w1 hb=>by
   have h0:w0.heap[w.heap.size]?=some (Obj.cells #[.int .i64 9,.int .i64 n,.string s,.bool r,v] 37 (0,0)):=by rw[hw0]; exact heap_alloc_new w _
   exact Lib.cell_of_heap ((hb.block _ (Array.getElem?_eq_some_iff.1 h0).1).trans h0) 1
  have HT:=hide (comparisons_walk w0.drew)
  have HC0:=hide (uh HC w0.drew (Below.refl _ _).drew)
  by_cases a1:1≤n
  ·have HV:Hid (numOk 9 n=decide (n≤6)):=by show _=_; simp[numOk,a1]
   go_enter Tryz.func96,Tryz.ntmps96
   go_wp2_with fail
   rw[← hw0]
   clear hw0
   go_region_held3 (fun w'=>w'.cell? ⟨w.heap.size,1,none⟩=some (.int .i64 n)) (first | exact uh S3 | exact uh HC0) (first | (go_simp; refine (uh HT).mono ?_; rintro e w3 ⟨g3,rfl,b3⟩; have HB3:=hide (below_next (uh HB0).drew b3); have S3:=hide (uh HC w3 ((Below.refl _ _).drew.trans b3)); clear b3 HT))
   all_goals
    go_wp2
    go_ret
    exact⟨by rw[uh HV]; rfl,uh HB3⟩
  ·have HV:Hid (numOk 9 n=false):=by show _=_; simp[numOk,a1]
   have a1d:(1≤n)=False:=eq_false a1
   clear a1
   go_enter Tryz.func96,Tryz.ntmps96
   go_wp2_with fail
   clear hw0 HT
   go_quiet (fail)
   go_wp2
   go_ret
   exact⟨by rw[uh HV]; rfl,below_next (uh HB _) ⟨rfl,rfl,rfl,Nat.le_refl _,fun _ _=>rfl⟩⟩
 ·have HV:Hid (numOk k n=(n == 0)):=by show _=_; simp[numOk,h1,h9]
  clear HR
  go_enter Tryz.func96,Tryz.ntmps96
  go_wp2
  go_ret
  exact⟨by rw[uh HV]; rfl,uh HB _⟩
theorem goodFOp_walk (m:PFOp) (v:Value) (bl:List Nat) (w:World) (h:ORow stepE w v m.steps bl) (hs:m.s.size≤1048576) (hns:∀ p∈m.steps,p.name.size≤1048576) (hsl:m.steps.length≤1048576) :
  Calls Tryz.prog 79 #[.agg #[.int .i64 m.k,.int .i64 m.n,.string m.s,.bool m.root,v]] w fun e w'=>e = .returned (.bool (fopOk m))∧Below w.heap.size w w':=by
 have HE:Hid (fopOk m=(decide (1≤m.k) && decide (m.k≤12) && decide (m.steps.length≤1000) && (isRefK m.k || (!m.root && decide (m.steps.length=0))) && m.steps.all stepOk && (m.k == 2 || empT m.s) && numOk m.k m.n && plainT m.s)):=rfl
 have HN:=hide (fun w=>goodNumber_walk m v w)
 obtain⟨k,n,s,r,st⟩:=m
 simp only at *
 have HP:Hid (∀ w,Calls Tryz.prog 76 #[.string s] w fun e w'=>e = .returned (.bool (plainT s))∧w=w'):=fun w=>goodText_walk _ w hs
 have HRF:Hid (∀ w,Calls Tryz.prog 97 #[.int .i64 k] w fun e w'=>e = .returned (.bool (isRefK k))∧w=w'):=fun w=>isRef_walk _ w
 have HB:Hid (∀ o,Below w.heap.size w (w.alloc o)):=fun o=>alloc_b w o
 have HCF0:Hid (∀ w1,Below w.heap.size w w1→st.length≤1000→Calls Tryz.prog 98 #[v,.func (Fn.func 99) #[] #[]] w1 fun e w'=>e = .returned (.bool (!st.all stepOk))∧Below w1.heap.size w1 w'):=fun w1 b hl=>containsStep_walk v st bl w1 (h.below b) hl hns
 obtain⟨a,c,rfl,-,-⟩:=h.form
 clear h hs hns
 have hslI:(st.length:Int)≤1048576:=by omega
 generalize fopOk ⟨k,n,s,r,st⟩=FO at *
 generalize hNK:numOk k n=NK at *
 clear hNK
 generalize plainT s=PS at *
 by_cases k1:1≤k
 ·by_cases k12:k≤12
  ·obtain⟨w0,hw0⟩ : ∃ w0,w0=w.alloc (Obj.cells #[.int .i64 k,.int .i64 n,.string s,.bool r,.slice a st.length c] 37 (0,0)):=⟨_,rfl⟩
   have HB0:Hid (Below w.heap.size w w0):=by rw[hw0]; exact uh HB _
   have HC:Hid (∀ w1,Below w0.heap.size w0 w1→w1.cell? ⟨w.heap.size,0,none⟩=some (.int .i64 k)∧w1.cell? ⟨w.heap.size,2,none⟩=some (.string s)∧w1.cell? ⟨w.heap.size,3,none⟩=some (.bool r)∧w1.cell? ⟨w.heap.size,4,none⟩=some (.slice a st.length c)):=fun w1 hb=>by
    have h0:w0.heap[w.heap.size]?=some (Obj.cells #[.int .i64 k,.int .i64 n,.string s,.bool r,.slice a st.length c] 37 (0,0)):=by rw[hw0]; exact heap_alloc_new w _
    have h1:=(hb.block _ (Array.getElem?_eq_some_iff.1 h0).1).trans h0
    exact⟨Lib.cell_of_heap h1 0,Lib.cell_of_heap h1 2,Lib.cell_of_heap h1 3,Lib.cell_of_heap h1 4⟩
   go_enter Tryz.func79,Tryz.ntmps79
   go_wp2_with fail
   rw[← hw0]
   refine (uh HN _).mono ?_
   rintro e w1 ⟨rfl,b1⟩
   obtain⟨c0,c2,c3,c4⟩:=uh HC _ b1
   have HB1:=hide (below_next (uh HB0) b1)
   have HCF:=hide (uh HCF0 w1 (uh HB1))
   clear b1 HC HCF0 HB0 hw0 HN HB
   cases NK with
   | false=>
    have HV:Hid (FO=false):=by show _=_; rw[uh HE]; simp[]
    clear HE
    go_wp2
    go_ret
    exact⟨by rw[uh HV]; rfl,uh HB1⟩
   | true=>
    go_wp2_with fail
    refine (uh HP _).mono ?_
    rintro e w2 ⟨rfl,rfl⟩
    clear HP
    cases PS with
    | false=>
     have HV:Hid (FO=false):=by show _=_; rw[uh HE]; simp[]
     clear HE
     go_wp2
     go_ret
     exact⟨by rw[uh HV]; rfl,uh HB1⟩
    | true=>
     by_cases h2:k=2
     ·subst h2
      have hr:isRefK 2=false:=rfl
      rw[hr] at HRF
      go_wp2_with fail
      refine (uh HRF _).mono ?_
      rintro e w2 ⟨rfl,rfl⟩
      clear HRF
      cases r with
      | true=>
       have HV:Hid (FO=false):=by show _=_; rw[uh HE]; simp[hr]
       clear HE
       go_wp2
       go_ret
       exact⟨by rw[uh HV]; rfl,uh HB1⟩
      | false=>
       by_cases hl0:(st.length:Int)=0
       ·have hl0':st.length=0:=by omega
        have hlen:st.length≤1000:=by omega
        have hlen2:(st.length:Int)≤1000:=by omega
        have HV:Hid (FO=(st.all stepOk)):=by show _=_; rw[uh HE]; simp[hl0']
        clear HE hl0'
        go_wp2_with fail
        refine (uh HCF hlen).mono ?_
        rintro e w2 ⟨rfl,b2⟩
        have HB2:=hide (below_next (uh HB1) b2)
        clear b2 HCF
        go_wp2
        go_ret
        exact⟨by rw[uh HV]; simp,uh HB2⟩
       ·have hl0':¬ st.length=0:=by omega
        have hl1:((st.length:Int) == 0)=false:=by simpa using hl0'
        have HV:Hid (FO=false):=by show _=_; rw[uh HE]; simp[hr,hl0']
        clear HE
        go_wp2
        go_ret
        exact⟨by rw[uh HV]; rfl,uh HB1⟩
     ·have h2b:(k == 2)=false:=by simpa using h2
      cases he:s.toList.isEmpty with
      | false=>
       have HV:Hid (FO=false):=by show _=_; rw[uh HE]; simp[empT,he,h2]
       clear HE
       go_wp2
       go_ret
       exact⟨by rw[uh HV]; rfl,uh HB1⟩
      | true=>
       go_wp2_with fail
       refine (uh HRF _).mono ?_
       rintro e w2 ⟨rfl,rfl⟩
       clear HRF
       cases hr:isRefK k with
       | true=>
        by_cases hlen2:(st.length:Int)≤1000
        ·have hlen:st.length≤1000:=by omega
         have HV:Hid (FO=(st.all stepOk)):=by show _=_; rw[uh HE]; simp[k1,k12,hr,empT,he,hlen]
         clear HE
         go_wp2_with fail
         refine (uh HCF hlen).mono ?_
         rintro e w2 ⟨rfl,b2⟩
         have HB2:=hide (below_next (uh HB1) b2)
         clear b2 HCF
         go_wp2
         go_ret
         exact⟨by rw[uh HV]; simp,uh HB2⟩
        ·have hlen:¬ st.length≤1000:=by omega
         have HV:Hid (FO=false):=by show _=_; rw[uh HE]; simp[hlen]
         clear HE
         go_wp2
         go_ret
         exact⟨by rw[uh HV]; rfl,uh HB1⟩
       | false=>
        cases r with
        | true=>
         have HV:Hid (FO=false):=by show _=_; rw[uh HE]; simp[hr]
         clear HE
         go_wp2
         go_ret
         exact⟨by rw[uh HV]; rfl,uh HB1⟩
        | false=>
         by_cases hl0:(st.length:Int)=0
         ·have hl0':st.length=0:=by omega
          have hlen:st.length≤1000:=by omega
          have hlen2:(st.length:Int)≤1000:=by omega
          have HV:Hid (FO=(st.all stepOk)):=by show _=_; rw[uh HE]; simp[k1,k12,hr,empT,he,hl0']
          clear HE hl0'
          go_wp2_with fail
          refine (uh HCF hlen).mono ?_
          rintro e w2 ⟨rfl,b2⟩
          have HB2:=hide (below_next (uh HB1) b2)
          clear b2 HCF
          go_wp2
          go_ret
          exact⟨by rw[uh HV]; simp,uh HB2⟩
         ·have hl0':¬ st.length=0:=by omega
          have hl1:((st.length:Int) == 0)=false:=by simpa using hl0'
          have HV:Hid (FO=false):=by show _=_; rw[uh HE]; simp[hr,hl0']
          clear HE
          go_wp2
          go_ret
          exact⟨by rw[uh HV]; rfl,uh HB1⟩
  ·have HV:Hid (FO=false):=by show _=_; rw[uh HE]; simp[k12]
   clear HE HN HP HRF HCF0
   go_enter Tryz.func79,Tryz.ntmps79
   go_wp2
   go_ret
   exact⟨by rw[uh HV]; rfl,uh HB _⟩
 ·have HV:Hid (FO=false):=by show _=_; rw[uh HE]; simp[k1]
  clear HE HN HP HRF HCF0
  go_enter Tryz.func79,Tryz.ntmps79
  go_wp2
  go_ret
  exact⟨by rw[uh HV]; rfl,uh HB _⟩
def condK:Nat→KE CT
 | 0=>{ T:=84,wd:=1,pos:=by decide,R:=fun _ _ _ _=>False,len:=fun h=>h.elim,move:=fun h _=>h }
 | n+1=>{
  T:=84,wd:=1,pos:=by decide
  R:=fun w S vs c=>∃ (b:Nat) (st pa:Value) (bl:List Nat),vs=[.pointer (some ⟨b,0,none⟩)]∧S b∧w.heap[b]?=some (.cells #[.int .i64 c.op.k,.int .i64 c.op.n,.string c.op.s,.bool c.op.root,st,pa] 132 (0,0)) ∧
   ORow stepE w st c.op.steps bl∧(∀ x∈bl,S x)∧LRow (condK n) w S pa c.ps
  len:=fun h=>by obtain⟨b,st,pa,bl,rfl,-⟩:=h; rfl
  move:=fun h hm=>by
   obtain⟨b,st,pa,bl,rfl,hS,hb,ho,hbl,hp⟩:=h
   obtain⟨hS',hb'⟩:=hm b hS (Array.getElem?_eq_some_iff.1 hb).1
   exact⟨b,st,pa,bl,rfl,hS',hb'.trans hb,ho.keep fun x hx=>(hm x (hbl x hx) (ho.lt x hx)).2,fun x hx=>(hm x (hbl x hx) (ho.lt x hx)).1,hp.move hm⟩ }
theorem condK_T (n:Nat) : (condK n).T=84:=by cases n <;> rfl
theorem condK_wd (n:Nat) : (condK n).wd=1:=by cases n <;> rfl
theorem condK_up:∀ (n:Nat) {w:World} {S:Nat→Prop} {vs:List Value} {c:CT},(condK n).R w S vs c→(condK (n+1)).R w S vs c
 | 0,_,_,_,_,h=>h.elim
 | n+1,_,_,_,_,h=>by
  obtain⟨b,st,pa,bl,h1,h2,h3,h4,h5,h6⟩:=h
  exact⟨b,st,pa,bl,h1,h2,h3,h4,h5,h6.imp (by rw[condK_wd,condK_wd]) (condK_up n)⟩
theorem condK_cells {n:Nat} {w:World} {S:Nat→Prop} {vs:List Value} {c:CT} (h:(condK n).R w S vs c) : ∃ (b:Nat) (st pa:Value),vs=[.pointer (some ⟨b,0,none⟩)]∧S b∧w.heap[b]?=some (.cells #[.int .i64 c.op.k,.int .i64 c.op.n,.string c.op.s,.bool c.op.root,st,pa] 132 (0,0))∧(∃ m,m < n∧LRow (condK m) w S pa c.ps):=by
 cases n with
 | zero=>exact h.elim
 | succ n=>
  obtain⟨b,st,pa,bl,h1,h2,h3,h4,h5,h6⟩:=h
  exact⟨b,st,pa,h1,h2,h3,n,by omega,h6⟩
theorem isTruth_cell (b:Nat) (k:Int) (w:World) (h:w.cell? ⟨b,0,none⟩=some (.int .i64 k)) : Calls Tryz.prog 82 #[.pointer (some ⟨b,0,none⟩)] w fun e w'=>e = .returned (.bool (isTru k))∧w=w':=by
 by_cases h8:k=8
 ·subst h8
  go_enter Tryz.func82,Tryz.ntmps82
  go_wp2
  go_ret
  exact⟨rfl,rfl⟩
 by_cases h9:k=9
 ·subst h9
  go_enter Tryz.func82,Tryz.ntmps82
  go_wp2
  go_ret
  exact⟨rfl,rfl⟩
 by_cases h10:k=10
 ·subst h10
  go_enter Tryz.func82,Tryz.ntmps82
  go_wp2
  go_ret
  exact⟨rfl,rfl⟩
 by_cases h11:k=11
 ·subst h11
  go_enter Tryz.func82,Tryz.ntmps82
  go_wp2
  go_ret
  exact⟨rfl,rfl⟩
 by_cases h12:k=12
 ·subst h12
  go_enter Tryz.func82,Tryz.ntmps82
  go_wp2
  go_ret
  exact⟨rfl,rfl⟩
 ·have HV:Hid (isTru k=false):=by show _=_; simp[isTru,h8,h9,h10,h11,h12]
  go_enter Tryz.func82,Tryz.ntmps82
  go_wp2
  go_ret
  exact⟨by rw[uh HV]; rfl,rfl⟩
theorem isTruth_walk {n:Nat} {S:Nat→Prop} (v:Value) (c:CT) (w:World) (h:(condK n).R w S [v] c) : Calls Tryz.prog 82 #[v] w fun e w'=>e = .returned (.bool c.tru)∧w=w':=by
 obtain⟨b,st,pa,e,-,hb,-⟩:=condK_cells h
 injection e with e
 subst e
 exact isTruth_cell b _ w (Lib.cell_of_heap hb 0)
theorem Mv.drewN {S:Nat→Prop} (w:World) (d:Nat) : Mv S S w (w.drewN d):=fun _ hb _=>⟨hb,rfl⟩
theorem partsFit_walk {n:Nat} {S:Nat→Prop} (b:Nat) (k:Int) (c1 c2 c3 c4 pa:Value) (ps:List CT) (w:World) (hb:w.heap[b]?=some (.cells #[.int .i64 k,c1,c2,c3,c4,pa] 132 (0,0))) (h:LRow (condK n) w S pa ps) (hl:ps.length≤2) :
  Calls Tryz.prog 81 #[.pointer (some ⟨b,0,none⟩)] w fun e w'=>e = .returned (.bool (ps.all fun c=>c.tru != (k == 9)))∧∃ d,w'=w.drewN d:=by
 obtain⟨a,cap,rfl,hxa⟩:=h.form
 have HC:Hid (∀ d,(w.drewN d).cell? ⟨b,0,none⟩=some (.int .i64 k)∧(w.drewN d).cell? ⟨b,5,none⟩=some (.slice a ps.length cap)):=fun d=>
  have hd:(w.drewN d).heap[b]?=some (.cells #[.int .i64 k,c1,c2,c3,c4,.slice a ps.length cap] 132 (0,0)):=hb
  ⟨Lib.cell_of_heap hd 0,Lib.cell_of_heap hd 5⟩
 have HROW:Hid (∀ d j (hj:j < ps.length),∃ g v,a=some ⟨g,0,none⟩∧(w.drewN d).cell? ⟨g,j,none⟩=some v∧∀ d',Calls Tryz.prog 82 #[v] ((w.drewN d).drewN d') fun e w'=>e = .returned (.bool ps[j].tru)∧w'=(w.drewN d).drewN d'):=fun d j hj=>by
  obtain⟨g,rfl⟩:=hxa (by omega)
  obtain⟨vs,hR,hc⟩:=h.at (List.getElem?_eq_getElem hj)
  have hlen:=(condK n).len hR
  rw[condK_wd] at hlen
  obtain⟨v,rfl⟩ : ∃ v,vs=[v]:=by
   match vs,hlen with
   | [v],_=>exact⟨v,rfl⟩
  have hc0:=hc 0 v rfl
  rw[condK_wd] at hc0
  refine⟨g,v,rfl,?_,fun d'=>?_⟩
  ·have:j*1+0=j:=by omega
   rw[this] at hc0
   exact hc0
  ·exact (isTruth_walk v _ ((w.drewN d).drewN d') ((condK n).move ((condK n).move hR (Mv.drewN w d)) (Mv.drewN _ d'))).mono fun e w' h=>⟨h.1,h.2.symm⟩
 have HNO:Hid (∀ j (hj:j < ps.length),(ps[j].tru != (k == 9))=false→(ps.all fun c=>c.tru != (k == 9))=false):=fun j hj e=>all_no hj e
 have HYES:Hid ((∀ j (hj:j < ps.length),(ps[j].tru != (k == 9))=true)→(ps.all fun c=>c.tru != (k == 9))=true):=fun e=>all_yes e
 have hlI:(ps.length:Int)≤2:=by omega
 clear h hxa hb hl
 generalize (ps.all fun c=>c.tru != (k == 9))=FO at *
 obtain⟨x0,x5⟩:=uh HC 0
 rw[show w.drewN 0=w from rfl] at x0 x5
 generalize hK9:(k == 9)=K9 at *
 go_enter Tryz.func81,Tryz.ntmps81
 go_wp2_with fail
 go_loopw [10] (fun iv wr=>∃ j:Nat,j≤ps.length∧iv = .int .i64 (j:Int)∧Hid (∃ d,wr=w.drewN d)∧Hid (∀ i (hi:i < ps.length),i < j→(ps[i].tru != K9)=true)) (fun i _=>ps.length - (intOf i).toNat)
 case atStart=>exact⟨0,by omega,rfl,⟨0,rfl⟩,fun i _ hi=>by omega⟩
 case round=>
  obtain⟨j,hj,rfl,hd0,hd⟩:=hrel
  obtain⟨d,hwr⟩:=uh hd0
  clear hd0
  have HWR:Hid (∀ d',∃ d'',wr.drewN d'=w.drewN d''):=fun d'=>⟨d+d',by rw[hwr,World.drewN_drewN]⟩
  have HWR0:Hid (∃ d'',wr=w.drewN d''):=⟨d,hwr⟩
  by_cases hlt:j < ps.length
  ·have hltI:(j:Int) < (ps.length:Int):=by omega
   obtain⟨g,v,rfl,cv,hcall⟩:=uh HROW d j hlt
   obtain⟨y0,y5⟩:=uh HC d
   rw[← hwr] at cv hcall y0 y5
   clear hwr
   have HJY:Hid ((ps[j].tru != K9)=true→∀ i (hi:i < ps.length),i < j+1→(ps[i].tru != K9)=true):=fun e i hi h=>by
    by_cases ei:i=j
    ·subst ei; exact e
    ·exact uh hd i hi (by omega)
   have HJN:Hid ((ps[j].tru != K9)=false→FO=false):=uh HNO j hlt
   have HCL:=hide hcall
   clear hcall hd HNO HROW HYES HC x0 x5
   generalize ps[j].tru=P at *
   cases hx:(P == K9) with
   | true=>
    have HQ:=hide (uh HJN (by unfold bne; rw[hx]; rfl))
    clear HJY HJN
    go_wp2_with fail
    go_quiet ((go_at_call 82; exact Calls.quiet_of_same (uh HCL _)))
    go_wp2
    go_ret
    exact⟨by rw[uh HQ]; rfl,uh HWR _⟩
   | false=>
    have HD:=hide (uh HJY (by unfold bne; rw[hx]; rfl))
    clear HJY HJN
    go_wp2_with fail
    go_quiet ((go_at_call 82; exact Calls.quiet_of_same (uh HCL _)))
    go_wp2
    go_roundw
    case rel=>exact⟨j+1,by omega,by go_num,uh HWR _,HD⟩
    case measure=>simp[intOf]; omega
  ·have HQ:=hide (uh HYES fun i hi=>uh hd i hi (by omega))
   clear hd HNO HROW HYES hwr
   go_wp2
   go_ret
   exact⟨by rw[uh HQ]; rfl,uh HWR0⟩
end Go.Proofs.YtkjcgkfejdogbaaGreatDoor
namespace Go.Proofs.YtkjcgkfejdogbaaGreatDoor
open Go.RowKit Go.Lib
theorem infoCondP:(Tryz.prog.info? 84).map (fun i=>(i.zero,i.size,i.bytes))=some (some (.pointer none),1,8):=by kernel_rfl
theorem cloneC_nil (w:World) : Calls Tryz.prog 80 #[.slice none 0 0] w fun e w'=>e = .returned (.slice none 0 0)∧w=w':=by
 have q:∀ (w:World) (a:Option Addr) (n c n' c':Nat),(binOp .eql 128 (.slice a n c) (.slice none n' c')).run Tryz.prog w = .ok (.bool a.isNone) w:=fun w a n c n' c'=>Lib.run_eql_slice_nil w _ _ a n c n' c' Tryz.underlying128
 go_enter Tryz.func80,Tryz.ntmps80
 go_wp2
 go_ret
 exact⟨rfl,rfl⟩
theorem cloneC_walk (a:Addr) (cap:Nat) (us:List Value) (w:World) (hc:∀ (j:Nat) (u:Value),us[j]?=some u→w.cell? (a.add j)=some u) (h1:∀ u∈us,u.oneCell'=true) (hl:us.length≤1000000) :
  Calls Tryz.prog 80 #[.slice (some a) us.length cap] w fun e w'=>∃ r,e = .returned r∧w'.ownsRow w.heap.size 84 1 r us.length us∧Below w.heap.size w w':=by
 have HV:=hide hc
 have H1:=hide h1
 clear hc h1
 have q:∀ (w:World) (a:Option Addr) (n c n' c':Nat),(binOp .eql 128 (.slice a n c) (.slice none n' c')).run Tryz.prog w = .ok (.bool a.isNone) w:=fun w a n c n' c'=>Lib.run_eql_slice_nil w _ _ a n c n' c' Tryz.underlying128
 have HA:Hid (Below w.heap.size w (w.alloc (.cells #[] 84))):=(Below.refl _ _).alloc (Nat.le_refl _) _
 have HO:Hid ((w.alloc (.cells #[] 84)).ownsRow w.heap.size 84 1 (.slice (some ⟨w.heap.size,0,none⟩) 0 0) 0 []):=World.ownsRow_made w #[] 0 (Nat.le_refl _) (Nat.zero_le _) rfl
 have HZ:Hid (w.heap.size≤(w.alloc (.cells #[] 84)).heap.size):=by show _≤_; simp
 have HV2:Hid (∀ (j:Nat) (u:Value),us[j]?=some u→(w.alloc (.cells #[] 84)).cell? (a.add j)=some u):=fun j u hu=>by
  have h0:=uh HV j u hu
  exact ((uh HA).cell (World.block_lt_of_cell? _ _ h0)).trans h0
 obtain⟨i0,hi,hz0,hz1,hz2⟩:=info_parts infoCondP
 go_enter Tryz.func80,Tryz.ntmps80
 go_wp2_with (at_builtin; refine wpList_append_own _ rfl (.tmp 5) (.tmp 6) 128 rfl w.heap.size 84 i0 (.pointer none) 1 8 Tryz.underlying128 hi hz0 hz1 hz2 rfl (by decide) _ _ _ rfl (uh HO) a us.length cap us rfl (by simp) (uh HV2) (uh H1) (by unfold maxLen; omega) (by omega) (uh HZ) ?_)
 intro v' w1 hown hgrow _
 have HB1:=hide ((uh HA).grown hgrow (uh HZ) (by intro k hk; simp[Value.ownBlock] at hk; omega))
 have HO1:Hid (w1.ownsRow w.heap.size 84 1 v' us.length us):=hide (by simpa using hown)
 clear hown hgrow
 go_wp2
 go_ret
 exact⟨v',rfl,uh HO1,uh HB1⟩
end Go.Proofs.YtkjcgkfejdogbaaGreatDoor
