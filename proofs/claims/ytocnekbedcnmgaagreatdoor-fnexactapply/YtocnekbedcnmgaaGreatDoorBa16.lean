import Derived.Deep.RegionWith
import Derived.Deep.RegionLaw
import Derived.Test.YtocnekbedcnmgaaGreatDoorBa15
import Derived.Test.YtocnekbedcnmgaaGreatDoorBa2
import Derived.Test.YtocnekbedcnmgaaGreatDoorBa1
import Derived.Laws.AppendOwnNone
import Derived.Deep.RegionHeld
import Derived.Test.YtocnekbedcnmgaaGreatDoorBa14
set_option maxRecDepth 100000
set_option maxHeartbeats 8000000
namespace Go.Proofs.YtocnekbedcnmgaaGreatDoor
open Go.RowKit
theorem draws_b (w:World) (n:Nat) : Below w.heap.size w (w.drewN n):=⟨rfl,rfl,rfl,Nat.le_refl _,fun _ _=>rfl⟩
theorem ORow.len {α:Type} {e:Elem α} {w:World} {v:Value} {xs:List α} {bl:List Nat} (h:ORow e w v xs bl) : xs.length≤maxLen:=by
 obtain⟨ps,hl,hE,ho,_⟩:=h
 rcases ho.2 with ⟨hv,h0⟩ | ⟨g,cap,cur,hv,_,_,h1,h2,_⟩
 ·omega
 ·omega
structure POp where
 kind:Int
 path:ByteArray
 src:ByteArray
 val:ByteArray
def opR:RElem POp where
 wd:=4
 R:=fun _ vs m=>vs=[.int .i64 m.kind,.string m.path,.string m.src,.string m.val]∧m.path.size≤maxLen∧m.src.size≤maxLen∧m.val.size≤maxLen
 len:=fun h=>by rw[h.1]; rfl
 keep:=fun h _=>h
def opE:Elem POp where
 T:=59
 wd:=4
 E:=fun _ vs m bl=>vs=[.int .i64 m.kind,.string m.path,.string m.src,.string m.val]∧bl=[]
 len:=fun h=>by rw[h.1]; rfl
 lt:=fun h b hb=>by rw[h.2] at hb; cases hb
 keep:=fun h _=>h
def szOp (m:POp) : Nat:=m.path.size+m.src.size+m.val.size
theorem szOp_walk (a0 a1 a2 a3:Value) (m:POp) (L:Nat) (w:World) (h:opR.R w [a0,a1,a2,a3] m) (hL:L≤1048576) :
  Calls Tryz.prog 46 #[.agg #[a0,a1,a2,a3],.int .i64 L] w fun e w'=>e = .returned (.int .i64 (szI L (szOp m)))∧Below w.heap.size w w':=by
 obtain⟨hq,h1,h2,h3⟩:=h
 injection hq with e0 hq; injection hq with e1 hq; injection hq with e2 hq; injection hq with e3 hq
 subst e0; subst e1; subst e2; subst e3
 clear hq
 unfold maxLen at h1 h2 h3
 by_cases n1:m.path.size≤L
 ·by_cases n2:m.path.size+m.src.size≤L
  ·by_cases n3:m.path.size+m.src.size+m.val.size≤L
   ·have hZ:szI L (szOp m)=(L:Int) - (m.path.size:Int) - (m.src.size:Int) - (m.val.size:Int):=by
     unfold szOp
     rw[szI_ok n3]; omega
    rw[hZ]
    clear hZ
    go_enter Tryz.func46,Tryz.ntmps46
    go_wp2
    go_ret
    exact⟨rfl,alloc_b w _⟩
   ·rw[szI_no (by unfold szOp; omega)]
    go_enter Tryz.func46,Tryz.ntmps46
    go_wp2
    go_ret
    exact⟨rfl,alloc_b w _⟩
  ·rw[szI_no (by unfold szOp; omega)]
   go_enter Tryz.func46,Tryz.ntmps46
   go_wp2
   go_ret
   exact⟨rfl,alloc_b w _⟩
 ·rw[szI_no (by unfold szOp; omega)]
  go_enter Tryz.func46,Tryz.ntmps46
  go_wp2
  go_ret
  exact⟨rfl,alloc_b w _⟩
def szOps (ms:List POp) : Nat:=ms.length+(ms.map szOp).sum
theorem szOps_walk (v:Value) (ms:List POp) (L:Nat) (w:World) (h:RRow opR w v ms) (hL:L≤1048576) :
  Calls Tryz.prog 16 #[v,.int .i64 L] w fun e w'=>e = .returned (.int .i64 (szI L (szOps ms)))∧Below w.heap.size w w':=by
 have H:=hide h
 obtain⟨hm,a,cap,rfl,hrow⟩:=h
 unfold maxLen at hm
 clear hrow
 by_cases h0:L < ms.length
 ·go_enter Tryz.func16,Tryz.ntmps16
  go_wp2
  go_ret
  exact⟨ret_int (szI_no (by unfold szOps; omega)).symm,Below.refl _ _⟩
 ·go_enter Tryz.func16,Tryz.ntmps16
  go_wp2
  go_loopw [1,5] (fun l i wr=>∃ k:Nat,k≤ms.length∧i = .int .i64 k∧ms.length+((ms.take k).map szOp).sum≤L∧l = .int .i64 ((L - (ms.length+((ms.take k).map szOp).sum) : Nat) : Int)∧Below w.heap.size w wr) (fun _ i _=>ms.length - (intOf i).toNat)
  case atStart=>exact⟨0,Nat.zero_le _,rfl,by simp; omega,by simp; omega,Below.refl _ _⟩
  case round=>
   obtain⟨k,hk,rfl,hle,rfl,hb⟩:=hrel
   by_cases hlt:k < ms.length
   ·have ht:=sum_take_snoc szOp ms k ms[k] (List.getElem?_eq_getElem hlt)
    have hts:=sum_take_le (ms.map szOp) (k+1)
    rw[← List.map_take] at hts
    obtain⟨_,a',cap',he,hrow⟩:=(uh H).below hb
    injection he with he1 he2 he3; subst he1; subst he3; clear he2
    obtain⟨b,o,rfl,vs,hR,hc⟩:=hrow k ms[k] (List.getElem?_eq_getElem hlt)
    obtain⟨a0,a1,a2,a3,rfl⟩:=list4 (opR.len hR)
    have c0:wr.cell? ⟨b,o+k*4,none⟩=_:=hc 0 _ rfl
    have c1:wr.cell? ⟨b,o+k*4+1,none⟩=_:=hc 1 _ rfl
    have c2:wr.cell? ⟨b,o+k*4+2,none⟩=_:=hc 2 _ rfl
    have c3:wr.cell? ⟨b,o+k*4+3,none⟩=_:=hc 3 _ rfl
    have HM:=hide (szOp_walk a0 a1 a2 a3 ms[k] (L - (ms.length+((ms.take k).map szOp).sum)) wr hR (by omega))
    clear hrow hc hR
    have HS:Hid (szOps ms=ms.length+(ms.map szOp).sum):=rfl
    generalize (ms.map szOp).sum=T9 at *
    generalize ((ms.take k).map szOp).sum=T at *
    have hT2:∃ T2,((ms.take (k+1)).map szOp).sum=T2:=⟨_,rfl⟩
    obtain⟨T2,hT2⟩:=hT2
    rw[hT2] at ht hts
    have HT:=hide hT2
    clear hT2
    generalize szOp ms[k]=z at *
    by_cases hn:ms.length+T+z≤L
    ·rw[szI_ok (by omega)] at HM
     go_wp2_with fail
     refine (uh HM).mono ?_
     rintro e w1 ⟨rfl,b1⟩
     have B1:=hide (below_next hb b1)
     clear HM b1 hb c0 c1 c2 c3
     go_wp2
     go_roundw
     case rel=>exact⟨k+1,by omega,by go_num,by rw[uh HT]; omega,by rw[uh HT]; go_num,uh B1⟩
     case measure=>simp[intOf]; omega
    ·rw[szI_no (by omega)] at HM
     go_wp2_with fail
     refine (uh HM).mono ?_
     rintro e w1 ⟨rfl,b1⟩
     have B1:=hide (below_next hb b1)
     clear HM b1 hb c0 c1 c2 c3
     go_wp2
     go_ret
     exact⟨ret_int (szI_no (by rw[uh HS]; omega)).symm,uh B1⟩
   ·have hk':k=ms.length:=by omega
    subst hk'
    rw[List.take_length] at hle ⊢
    go_wp2
    go_ret
    exact⟨ret_int (szI_ok (n:=szOps ms) hle).symm,hb⟩
theorem toOp_walk (a0 a1 a2 a3:Value) (m:POp) (w:World) (h:opR.R w [a0,a1,a2,a3] m) (_hs:szOp m≤1048576) :
  Calls Tryz.prog 50 #[.agg #[a0,a1,a2,a3]] w fun e w'=>∃ b0 b1 b2 b3 ib,e = .returned (.agg #[b0,b1,b2,b3])∧opE.E w' [b0,b1,b2,b3] m ib∧Fsh (w.heap.size+1) ib∧Below w.heap.size w w':=by
 obtain⟨hq,h1,h2,h3⟩:=h
 injection hq with e0 hq; injection hq with e1 hq; injection hq with e2 hq; injection hq with e3 hq
 subst e0; subst e1; subst e2; subst e3
 clear hq h1 h2 h3
 go_enter Tryz.func50,Tryz.ntmps50
 go_wp2
 have hA:=new3 w (Obj.cells #[.int .i64 m.kind,.string m.path,.string m.src,.string m.val] 81) (Obj.cells #[.int .i64 m.kind,.string m.path,.string m.src,.string m.val] 59) (Obj.cells #[.int .i64 m.kind,.string m.path,.string m.src,.string m.val] 59)
 refine bodyPost_ret (results_cell_row rfl _ _ (w.heap.size+1) 59 #[_,_,_,_] (0,0) _ rfl hA.k1 Tryz.underlying59 rfl (by kernel_rfl)) rfl ?_
 exact⟨_,_,_,_,[],rfl,⟨rfl,rfl⟩,Fsh.nil _,hA.bel⟩
theorem infoOp:(Tryz.prog.info? 59).map (fun i=>(i.zero,i.size,i.bytes))=some (some (.agg #[.int .i64 0,.string ByteArray.empty,.string ByteArray.empty,.string ByteArray.empty]),4,56):=by kernel_rfl
theorem toOps_walk (v:Value) (ms:List POp) (w:World) (h:RRow opR w v ms) (hs:szOps ms≤1048576) :
  Calls Tryz.prog 18 #[v] w fun e w'=>∃ v' bl,e = .returned v'∧ORow opE w' v' ms bl∧Fsh w.heap.size bl∧Below w.heap.size w w':=by
 have hl:ms.length≤1048576:=by unfold szOps at hs; omega
 have hsz:∀ k (hk:k < ms.length),szOp ms[k]≤1048576:=fun k hk=>by
  have h1:=sum_take_snoc szOp ms k ms[k] (List.getElem?_eq_getElem hk)
  have h2:=sum_take_le (ms.map szOp) (k+1)
  rw[← List.map_take] at h2
  unfold szOps at hs; omega
 have HZ:=hide hsz
 clear hs hsz
 have H:=hide h
 obtain⟨hm,a,cap,rfl,hrow⟩:=h
 clear hrow hm
 obtain⟨i0,hi,hz0,hz1,hz2⟩:=info_parts infoOp
 go_enter Tryz.func18,Tryz.ntmps18
 go_wp2_with (at_make; refine wpList_make_full _ rfl _ _ 22 rfl 0 59 i0 (.agg #[.int .i64 0,.string ByteArray.empty,.string ByteArray.empty,.string ByteArray.empty]) 4 Tryz.underlying22 hi hz0 hz1 .i64 .i64 _ _ ms.length rfl rfl rfl rfl (by rw[hz2]; omega) (by unfold maxLen; omega) (Nat.zero_le _) ?_)
 intro w1 hown hgrow
 have hbel:Below w.heap.size w w1:=(Below.refl _ _).grown hgrow (Nat.le_refl _) (by intro k hk; cases hk)
 have hP:PRow opE w1 w.heap.size ms.length ms.length [] []:=PRow.start hown
 have hg1:=hP.lt.1
 have HP:=hide hP
 have HB:=hide hbel
 clear hgrow hi hz0 hz1 hz2 hown hP hbel
 go_wp2
 go_loopw [4] (fun i wr=>∃ k:Nat,k≤ms.length∧i = .int .i64 k∧Below w.heap.size w wr∧∃ bl,PRow opE wr w.heap.size ms.length ms.length (ms.take k) bl∧Fsh (w.heap.size+1) bl) (fun i _=>ms.length - (intOf i).toNat)
 case atStart=>exact⟨0,Nat.zero_le _,rfl,uh HB,[],uh HP,Fsh.nil _⟩
 case round=>
  obtain⟨k,hk,rfl,hb,bl,hP,hF⟩:=hrel
  by_cases hlt:k < ms.length
  ·have hgr:=hP.lt.1
   obtain⟨_,a',cap',he,hrow⟩:=(uh H).below hb
   injection he with he1 he2 he3; subst he1; subst he3; clear he2
   obtain⟨b,o,rfl,vs,hR,hc⟩:=hrow k ms[k] (List.getElem?_eq_getElem hlt)
   obtain⟨a0,a1,a2,a3,rfl⟩:=list4 (opR.len hR)
   have c0:wr.cell? ⟨b,o+k*4,none⟩=_:=hc 0 _ rfl
   have c1:wr.cell? ⟨b,o+k*4+1,none⟩=_:=hc 1 _ rfl
   have c2:wr.cell? ⟨b,o+k*4+2,none⟩=_:=hc 2 _ rfl
   have c3:wr.cell? ⟨b,o+k*4+3,none⟩=_:=hc 3 _ rfl
   have HM:=hide (toOp_walk a0 a1 a2 a3 ms[k] wr hR (uh HZ k hlt))
   have hkl:(ms.take k).length=k:=by rw[List.length_take]; omega
   have HPR:=hide hP
   have HFB:=hide hF
   have HBR:=hide hb
   have HKL:=hide hkl
   clear hrow hc hR hP hF hb hkl
   go_wp2_with fail
   refine (uh HM).mono ?_
   rintro e w2 ⟨b0,b1,y2,b3,ib,rfl,hE,hFi,b2⟩
   have P2:=(uh HPR).below b2
   have hkl:=uh HKL
   have hlt':(ms.take k).length < ms.length:=by rw[hkl]; exact hlt
   obtain⟨u0,d0⟩:=P2.cell hlt' 0 (by decide)
   rw[hkl] at d0
   have d0:w2.cell? ⟨w.heap.size,k*4,none⟩=some u0:=d0
   obtain⟨u1,d1⟩:=P2.cell hlt' 1 (by decide)
   rw[hkl] at d1
   have d1:w2.cell? ⟨w.heap.size,k*4+1,none⟩=some u1:=d1
   obtain⟨u2,d2⟩:=P2.cell hlt' 2 (by decide)
   rw[hkl] at d2
   have d2:w2.cell? ⟨w.heap.size,k*4+2,none⟩=some u2:=d2
   obtain⟨u3,d3⟩:=P2.cell hlt' 3 (by decide)
   rw[hkl] at d3
   have d3:w2.cell? ⟨w.heap.size,k*4+3,none⟩=some u3:=d3
   have fz:=P2.frozen
   have hng:w.heap.size ∉ bl:=(uh HFB).not (by omega)
   have hngi:w.heap.size ∉ ib:=hFi.not (by omega)
   have HPN:=hide (P2.put hlt' hng hE hngi)
   have HFN:=hide ((uh HFB).app (C:=wr.heap.size+1) (fun b hb=>by have:=(uh HPR).lt.2 b hb; omega) hFi (by omega))
   have HBN:=hide (below_next (uh HBR) b2)
   have hE0:=hE
   have hbs:=hE0.1
   injection hbs with e0 hbs
   subst e0
   injection hbs with e1 hbs
   subst e1
   injection hbs with e2 hbs
   subst e2
   injection hbs with e3 hbs
   subst e3
   clear hbs
   rw[hkl] at HPN
   clear P2 hE hFi b2 HM hng hngi HPR HFB HBR hkl hlt' HKL
   go_wp2
   go_roundw
   case rel=>exact⟨k+1,by omega,by go_num,putN_below (uh HBN) (Nat.le_refl _) [_,_,_,_] (k*4),_,by rw[List.take_add_one,List.getElem?_eq_getElem hlt]; exact uh HPN,uh HFN⟩
   case measure=>simp[intOf]; omega
  ·have hk':k=ms.length:=by omega
   subst hk'
   rw[List.take_length] at hP
   go_wp2
   go_ret
   exact⟨_,_,rfl,hP.full rfl,hF.cons (Nat.le_refl _) (by omega),hb⟩
theorem eqOp_walk (a0 a1 a2 a3 b0 b1 b2 b3:Value) (m:POp) (ib jb:List Nat) (w:World) (h:opE.E w [a0,a1,a2,a3] m ib) (k:opE.E w [b0,b1,b2,b3] m jb) :
  Calls Tryz.prog 40 #[.agg #[a0,a1,a2,a3],.agg #[b0,b1,b2,b3]] w fun e w'=>e = .returned (.bool true)∧Below w.heap.size w w':=by
 have hq:=h.1
 injection hq with e0 hq
 subst e0
 injection hq with e1 hq
 subst e1
 injection hq with e2 hq
 subst e2
 injection hq with e3 hq
 subst e3
 clear hq
 have hq:=k.1
 injection hq with e0 hq
 subst e0
 injection hq with e1 hq
 subst e1
 injection hq with e2 hq
 subst e2
 injection hq with e3 hq
 subst e3
 clear hq
 go_enter Tryz.func40,Tryz.ntmps40
 go_wp2
 go_ret
 exact⟨rfl,below_next (alloc_b w _) (alloc_b _ _)⟩
theorem eqOps_walk (v v':Value) (ms:List POp) (bl bl':List Nat) (w:World) (h:ORow opE w v ms bl) (k:ORow opE w v' ms bl') :
  Calls Tryz.prog 11 #[v,v'] w fun e w'=>e = .returned (.bool true)∧Below w.heap.size w w':=by
 have hm:=h.len
 unfold maxLen at hm
 obtain⟨xa,xc,rfl,_,hxa⟩:=h.form
 obtain⟨ya,yc,rfl,_,hya⟩:=k.form
 have H:=hide h
 have K:=hide k
 clear h k
 go_enter Tryz.func11,Tryz.ntmps11
 go_wp2
 go_loopw [5] (fun i wr=>∃ k:Nat,k≤ms.length∧i = .int .i64 k∧Below w.heap.size w wr) (fun i _=>ms.length - (intOf i).toNat)
 case atStart=>exact⟨0,Nat.zero_le _,rfl,Below.refl _ _⟩
 case round=>
  obtain⟨k,hk,rfl,hb⟩:=hrel
  by_cases hlt:k < ms.length
  ·obtain⟨g,rfl⟩:=hxa (by omega)
   obtain⟨g',rfl⟩:=hya (by omega)
   obtain⟨vs,ib,hE,hc,_⟩:=((uh H).below hb).at (List.getElem?_eq_getElem hlt)
   obtain⟨a0,a1,a2,a3,rfl⟩:=list4 (opE.len hE)
   have c0:wr.cell? ⟨g,k*4,none⟩=_:=(hc 0 _ rfl).1
   have c1:wr.cell? ⟨g,k*4+1,none⟩=_:=(hc 1 _ rfl).1
   have c2:wr.cell? ⟨g,k*4+2,none⟩=_:=(hc 2 _ rfl).1
   have c3:wr.cell? ⟨g,k*4+3,none⟩=_:=(hc 3 _ rfl).1
   obtain⟨vs,jb,hE',hc',_⟩:=((uh K).below hb).at (List.getElem?_eq_getElem hlt)
   obtain⟨b0,b1,b2,b3,rfl⟩:=list4 (opE.len hE')
   have d0:wr.cell? ⟨g',k*4,none⟩=_:=(hc' 0 _ rfl).1
   have d1:wr.cell? ⟨g',k*4+1,none⟩=_:=(hc' 1 _ rfl).1
   have d2:wr.cell? ⟨g',k*4+2,none⟩=_:=(hc' 2 _ rfl).1
   have d3:wr.cell? ⟨g',k*4+3,none⟩=_:=(hc' 3 _ rfl).1
   have hx:Below wr.heap.size wr wr.drew:=(Below.refl _ _).drew
   have HM:=hide (eqOp_walk a0 a1 a2 a3 b0 b1 b2 b3 ms[k] ib jb wr.drew (opE.keep hE (.of_below hx (opE.lt hE))) (opE.keep hE' (.of_below hx (opE.lt hE'))))
   have HB:=hide hb
   have hlt':(k:Int) < (ms.length:Int):=by omega
   clear hxa hya hc hc' hE hE' hb hx
   go_wp2
   go_region_law (go_simp; refine (uh HM).mono ?_; rintro e w1 ⟨rfl,b1⟩)
   all_goals go_wp2
   all_goals go_roundw
   all_goals first
    | exact⟨k+1,by omega,by go_num,(uh HB).drew.trans (b1.mono (by have:=(uh HB).size; simp; omega))⟩
    | (simp[intOf]; omega)
  ·clear hxa hya
   go_wp2
   go_ret
   exact⟨rfl,hb⟩
def verbsA:Array Value:=#[.string ⟨#[97,100,100]⟩,.int .i64 1,.bool false,.bool true,.bool false,.bool true,.func (Fn.func 171) #[] #[],.string ⟨#[114,101,109,111,118,101]⟩,.int .i64 2,.bool false,.bool false,.bool false,.bool true,.func (Fn.func 172) #[] #[],.string ⟨#[114,101,112,108,97,99,101]⟩,.int .i64 3,.bool false,.bool true,.bool false,.bool false,.func (Fn.func 173) #[] #[],.string ⟨#[109,111,118,101]⟩,.int .i64 4,.bool true,.bool false,.bool true,.bool true,.func (Fn.func 174) #[] #[],.string ⟨#[99,111,112,121]⟩,.int .i64 5,.bool true,.bool false,.bool false,.bool true,.func (Fn.func 175) #[] #[],.string ⟨#[116,101,115,116]⟩,.int .i64 6,.bool false,.bool true,.bool false,.bool false,.func (Fn.func 176) #[] #[]]
theorem verbs_walk (w:World) : Calls Tryz.prog 130 #[] w fun e w'=>e = .returned (.slice (some ⟨w.heap.size,0,none⟩) 6 6)∧w'=w.alloc (.cells verbsA 141):=by
 go_enter Tryz.func130,Tryz.ntmps130
 go_wp2
 go_ret
 exact⟨rfl,rfl⟩
theorem verb_at {w:World} {g:Nat} (hg:w.heap[g]?=some (.cells verbsA 141 (0,0))) {j:Nat} (hj:j < 6) :
  ∃ c0 c2 c3 c4 c5 c6,w.cell? ⟨g,j*7,none⟩=some c0∧w.cell? ⟨g,j*7+1,none⟩=some (.int .i64 ((j:Int)+1))∧w.cell? ⟨g,j*7+2,none⟩=some c2∧w.cell? ⟨g,j*7+3,none⟩=some c3∧w.cell? ⟨g,j*7+4,none⟩=some c4∧w.cell? ⟨g,j*7+5,none⟩=some c5∧w.cell? ⟨g,j*7+6,none⟩=some c6:=by
 rcases (show j=0∨j=1∨j=2∨j=3∨j=4∨j=5 from by omega) with rfl | rfl | rfl | rfl | rfl | rfl
 all_goals exact⟨_,_,_,_,_,_,Lib.cell_of_heap hg _,Lib.cell_of_heap hg _,Lib.cell_of_heap hg _,Lib.cell_of_heap hg _,Lib.cell_of_heap hg _,Lib.cell_of_heap hg _,Lib.cell_of_heap hg _⟩
theorem results_cell_tmp {P:Program} {fn:Func} {p r:Tmp} {ty:TypeId} (h:fn.results=#[.cell p ty,.tmp r]) (tmps:Array Value) (w:World) (g:Nat) (t:TypeId) (cs:Array Value) (fr:Nat×Nat) (d:TypeDesc) (v:Value)
  (hp:tmps.getD p undef = .pointer (some ⟨g,0,none⟩)) (hr:tmps.getD r undef=v) (hg:w.heap[g]?=some (.cells cs t fr))
  (hu:P.underlying ty=some d) (hd:(match d with | .struct _ | .array _ _=>true | _=>false)=true) (hi:(P.info? ty).map (·.size)=some cs.size) :
  (results fn tmps).run P w = .ok (.tuple #[.agg cs,v]) w:=by
 have hp':tmps[p]?.getD undef = .pointer (some ⟨g,0,none⟩):=by simpa using hp
 have hr':tmps[r]?.getD undef=v:=by simpa using hr
 simp[results,h,hp',hr',asAddr,run_loadVar_row w g t ty cs fr d hg hu hd hi]
end Go.Proofs.YtocnekbedcnmgaaGreatDoor
namespace Go.Proofs.YtocnekbedcnmgaaGreatDoor
open Go.ChangeShapes Go.WideShapes Go.ChangeAt Go.RowKit Go.Deep
section
variable {H:Type} {enc:TypeId×Value→H} {w:World} {sp:Nat→Bool} {held:Bool}
theorem lst4 {α:Type} {l:List α} (h:l.length=4) : ∃ a b c d,l=[a,b,c,d]:=by
 match l,h with
 | [a,b,c,d],_=>exact⟨a,b,c,d,rfl⟩
instance : Inhabited POp := ⟨⟨0, ByteArray.empty, ByteArray.empty, ByteArray.empty⟩⟩
theorem open_op {n:Nat} {cs:List Value} {y:DataW H×List MemPlace} (h:DataW.trod enc Tryz.prog w 0 sp held n 81 cs=some y) : ∃ m,opR.R w cs m:=by
 obtain⟨xs,k,_,_,hl,hxl,hf⟩:=DataW.trod_struct Tryz.underlying81 h
 have hl4:cs.length=4:=hl.trans (by kernel_rfl)
 obtain⟨a0,a1,a2,a3,rfl⟩:=lst4 hl4
 obtain⟨y0,y1,y2,y3,rfl⟩:=lst4 hxl
 have h0:DataW.trod enc Tryz.prog w 0 sp held k 3 (List.take (Tryz.prog.cellsOf 3) [a0,a1,a2,a3])=some y0:=hf 0 _ rfl
 have h1:DataW.trod enc Tryz.prog w 0 sp held k 9 (List.take (Tryz.prog.cellsOf 9) [a1,a2,a3])=some y1:=hf 1 _ rfl
 have h2:DataW.trod enc Tryz.prog w 0 sp held k 9 (List.take (Tryz.prog.cellsOf 9) [a2,a3])=some y2:=hf 2 _ rfl
 have h3:DataW.trod enc Tryz.prog w 0 sp held k 9 (List.take (Tryz.prog.cellsOf 9) [a3])=some y3:=hf 3 _ rfl
 rw[show Tryz.prog.cellsOf 3=1 from by kernel_rfl] at h0
 rw[show Tryz.prog.cellsOf 9=1 from by kernel_rfl] at h1 h2 h3
 obtain⟨z0,e0⟩:=leaf_int Tryz.underlying3 (h0:DataW.trod enc Tryz.prog w 0 sp held k 3 [a0]=some y0)
 obtain⟨s1,e1,z1⟩:=leaf_str Tryz.underlying9 (h1:DataW.trod enc Tryz.prog w 0 sp held k 9 [a1]=some y1)
 obtain⟨s2,e2,z2⟩:=leaf_str Tryz.underlying9 (h2:DataW.trod enc Tryz.prog w 0 sp held k 9 [a2]=some y2)
 obtain⟨s3,e3,z3⟩:=leaf_str Tryz.underlying9 (h3:DataW.trod enc Tryz.prog w 0 sp held k 9 [a3]=some y3)
 cases e0; cases e1; cases e2; cases e3
 exact⟨⟨z0,s1,s2,s3⟩,rfl,z1,z2,z3⟩
theorem open_ops {fuel:Nat} {cs:List Value} {x:DataW H×List MemPlace} (h:DataW.trod enc Tryz.prog w 0 sp held fuel 31 cs=some x) : ∃ v xs,cs=[v]∧RRow opR w v xs:=
 open_rrow opR Tryz.underlying31 (by kernel_rfl) (by decide) (fun _ _ _ h=>open_op h) h
end
end Go.Proofs.YtocnekbedcnmgaaGreatDoor
