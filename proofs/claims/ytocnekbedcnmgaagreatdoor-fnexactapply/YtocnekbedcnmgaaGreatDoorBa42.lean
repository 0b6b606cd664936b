import Derived.Test.YtocnekbedcnmgaaGreatDoorBa38
import Derived.Test.YtocnekbedcnmgaaGreatDoorBa40
import Derived.Test.YtocnekbedcnmgaaGreatDoorBa19
import Derived.Test.YtocnekbedcnmgaaGreatDoorBa37
import Derived.Test.YtocnekbedcnmgaaGreatDoorBa41
set_option maxRecDepth 100000
set_option maxHeartbeats 8000000
namespace Go.Proofs.YtocnekbedcnmgaaGreatDoor
open Go.RowKit
def apO (v:JV) (ms:List POp) : (Int×Int)⊕JV:=if 0≤badI ms then .inl (2,badI ms) else match runV v (ms.map xOp) 0 with
 | .inl ci=>.inl ((ci.1:Int),(ci.2:Int))
 | .inr r=>.inr r
theorem apO_bad {v:JV} {ms:List POp} (h:0≤badI ms) : apO v ms = .inl (2,badI ms):=by unfold apO; rw[if_pos h]
theorem apO_code {v:JV} {ms:List POp} {c i:Nat} (h:¬ 0≤badI ms) (hr:runV v (ms.map xOp) 0 = .inl (c,i)) : apO v ms = .inl ((c:Int),(i:Int)):=by unfold apO; rw[if_neg h,hr]
theorem apO_tree {v r:JV} {ms:List POp} (h:¬ 0≤badI ms) (hr:runV v (ms.map xOp) 0 = .inr r) : apO v ms = .inr r:=by unfold apO; rw[if_neg h,hr]
def ApP (w:World) (o:(Int×Int)⊕JV) (e:Ending) (w':World) : Prop:=Below w.heap.size w w' ∧
 ((∃ c i t p,o = .inl (c,i)∧c≠0∧e = .returned (.tuple #[.nilIface,.iface t p])∧OpErr w' i c (.iface t p))∨∃ u t p,o = .inr u∧GdV u∧e = .returned (.tuple #[.iface t p,.nilIface])∧TrA w' u (.iface t p))
theorem opErr_at {w:World} {i c:Int} {t:TypeId} {p:Value} (h:FltAt w c (.iface t p)) : OpErr (w.alloc (.cells #[.int .i64 i,.iface t p] 161)) i c (.iface 159 (.pointer (some ⟨w.heap.size,0,none⟩))):=
 ⟨w.heap.size,_,rfl,heap_alloc_new w _,h.next (alloc_b _ _)⟩
theorem op_round (hEq:EqOk) (hMv:MoveOk) {w w1:World} {la:Option Addr} {lc:Nat} {ms:List POp} {qs:List OpQ} (hL:OpsL w1 w.heap.size (SOps w.heap.size w1 (.slice la qs.length lc)) (.slice la qs.length lc) ms qs) (hin:OpsIn ms) (hok:∀ m∈ms,opOk m=true) {k:Nat} (hk:k < ms.length) {wr:World} (hb:Below w1.heap.size w1 wr) (hw:RdW wr) {u:JV} (hu:GdV u) {ty:TypeId} {p:Value} (hr:TrA wr u (.iface ty p)) :
  ∃ lg g fid,la=some ⟨lg,0,none⟩∧wr.cell? ⟨lg,k,none⟩=some (.pointer (some ⟨g,0,none⟩))∧wr.cell? ⟨g,6,none⟩=some (.func (Fn.func fid) #[] #[])∧(∀ (w:World),Sem.run Tryz.prog (callFunc fid #[.iface ty p,.pointer (some ⟨g,0,none⟩)]) w = .ok (.enter fid #[.iface ty p,.pointer (some ⟨g,0,none⟩)]) w) ∧
   Calls Tryz.prog fid #[.iface ty p,.pointer (some ⟨g,0,none⟩)] wr (OutP wr (doV u (xOp ms[k]))):=by
 have hlen:=hL.len
 have row:=own_below hL.row hb
 obtain⟨lg,rfl⟩ : ∃ g,la=some ⟨g,0,none⟩:=by
  rcases row.2 with ⟨_,hn⟩ | ⟨g,cap,cur,hv,_⟩
  ·omega
  ·injection hv with hv _ _; exact⟨g,hv⟩
 have hkq:k < qs.length:=by omega
 have cg:wr.cell? ⟨lg,k,none⟩=some (ptrV qs[k]):=by
  rw[row.cellAt k (by simpa using hkq),List.getElem?_map,List.getElem?_eq_getElem hkq]; rfl
 have hops:=hL.ops k ms[k] qs[k] (List.getElem?_eq_getElem hk) (List.getElem?_eq_getElem hkq)
 have hopw:OpS wr (SOps w.heap.size w1 (.slice (some ⟨lg,0,none⟩) qs.length lc)) ms[k] qs[k]:=hops.keep (fun j hj=>hb.block j hj.2.1) (fun _ h=>h)
 obtain⟨i1,i2,i3⟩:=hin ms[k] (List.getElem_mem hk)
 obtain⟨k1,k6,hval⟩:=opOk_val (hok ms[k] (List.getElem_mem hk))
 obtain⟨g1,g2⟩:=valT_good ms[k]
 obtain⟨pa,fa,pg,pc,fg,fc,vt,vp,hM⟩:=hopw.toM (fun j hj=>Nat.lt_of_lt_of_le hj.2.1 hb.size) i1 i2 (valT ms[k]) (fun hv=>by
  have h1:=(hval hv).1
  rw[(hopw.val hv).1] at h1
  injection h1 with h1
  exact h1.symm)
 obtain⟨t1,_⟩:=tk_small ms[k].path i1
 obtain⟨t2,_⟩:=tk_small ms[k].src i2
 have hul:=hu.len
 obtain⟨fid,hf,hent,hcall⟩:=verb_walk hEq hMv u (xOp ms[k]) wr ty p k1 k6 hw hu.t (by omega) g1 (by show (ct (valT ms[k])).length≤_; omega) hr hM t2 t1 (fun m hm=>by have:=getV_le hu.t hm; omega)
 refine⟨lg,qs[k].g,fid,rfl,cg,?_,fun w=>hent _ w,hcall⟩
 have hb6:=hopw.blk
 unfold opB at hb6
 rw[show wr.cell? ⟨qs[k].g,6,none⟩=some (verbF ms[k].kind) from Lib.cell_of_heap hb6 6]
 exact congrArg some hf
theorem applyOps_walk (hEq:EqOk) (hMv:MoveOk) (v:JV) (hv:GdV v) (x:Value) (ms:List POp) (bl:List Nat) (w:World) (ty:TypeId) (p:Value) (hrow:ORow opE w x ms bl) (hs:szOps ms≤1048576) (hw:RdW w) (hr:TrA w v (.iface ty p)) :
  Calls Tryz.prog 51 #[.iface ty p,x] w (ApP w (apO v ms)):=by
 have HRO:=hide (readOps_walkE x ms bl w hrow hs hw)
 obtain⟨xa,xc,rfl,h1,hxa⟩:=hrow.form
 clear hrow h1 hxa
 by_cases hbad:0≤badI ms
 ·have HX:=hide (apO_bad (v:=v) hbad)
  have HBAD:=hide hbad
  clear hbad hr hw hs
  go_enter Tryz.func51,Tryz.ntmps51
  go_wp2_with fail
  refine (uh HRO).mono ?_
  rintro e w1 ⟨b1,hb,-⟩
  obtain⟨t,q,rfl,he⟩:=hb (uh HBAD)
  have HE:Hid (ApP w (apO v ms) (.returned (.tuple #[.nilIface,.iface t q])) w1):=⟨b1,.inl ⟨2,badI ms,t,q,uh HX,by decide,rfl,he⟩⟩
  clear HRO hb b1 he
  go_wp2
  go_ret2
  exact uh HE
 ·obtain⟨hl100,hall⟩:=badI_all hbad
  have hin:=opsIn hs
  have HBAD:=hide hbad
  have HTR:=hide hr
  have HRUN:Hid (runTo v (ms.map xOp) 0 v):=⟨rfl,hv⟩
  clear hbad hr
  go_enter Tryz.func51,Tryz.ntmps51
  go_wp2_with fail
  refine (uh HRO).mono ?_
  rintro e w1 ⟨b1,-,hg⟩
  obtain⟨lv,qs,rfl,hL⟩:=hg (by have:=uh HBAD; omega)
  obtain⟨la,lc,rfl⟩ : ∃ la lc,lv = .slice la qs.length lc:=by
   rcases hL.row.2 with ⟨hv,hn⟩ | ⟨g,cap,cur,hv,_⟩
   ·exact⟨none,0,by rw[hv,hn]⟩
   ·exact⟨some ⟨g,0,none⟩,cap,hv⟩
  have hlen:=hL.len
  have HOR:Hid (∀ (k:Nat) (hk:k < ms.length) (wr:World),Below w1.heap.size w1 wr→∀ (u:JV),GdV u→∀ ty p,TrA wr u (.iface ty p)→∃ lg g fid,la=some ⟨lg,0,none⟩∧wr.cell? ⟨lg,k,none⟩=some (.pointer (some ⟨g,0,none⟩))∧wr.cell? ⟨g,6,none⟩=some (.func (Fn.func fid) #[] #[])∧(∀ (w:World),Sem.run Tryz.prog (callFunc fid #[.iface ty p,.pointer (some ⟨g,0,none⟩)]) w = .ok (.enter fid #[.iface ty p,.pointer (some ⟨g,0,none⟩)]) w) ∧
    Calls Tryz.prog fid #[.iface ty p,.pointer (some ⟨g,0,none⟩)] wr (OutP wr (doV u (xOp ms[k])))):=fun k hk wr hb u hu ty p hr=>op_round hEq hMv hL hin hall hk hb (hw.up (below_next b1 hb)) hu hr
  have HPW:Hid (∀ wr,Below w.heap.size w wr→PowB wr.heap.size wr):=fun wr hx=>(hw.up hx).pow
  have HLN:Hid (∀ (k:Nat) (hk:k < ms.length) (u r:JV),GdV u→doV u (xOp ms[k]) = .inr r→GdT r∧(ct r).length≤10000000):=fun k hk u r hu hd=>by
   obtain⟨g1,g2⟩:=valT_good ms[k]
   obtain⟨i1,i2,i3⟩:=hin ms[k] (List.getElem_mem hk)
   have hdl:=doV_len hu.t hd (tk_small ms[k].path i1).2
   have hul:=hu.len
   refine⟨doV_good hu.t g1 hd,?_⟩
   have:(ct (xOp ms[k]).val).length≤20000:=g2
   omega
  have HTR1:=hide ((uh HTR).next b1)
  have HB1:=hide b1
  rw[hlen]
  clear HRO hg hL b1 hw hs hin hall HTR hEq hMv hlen hv
  go_wp2_with fail
  go_loopw [0,7,20] (fun rv ev iv wr=>∃ (k:Nat) (u:JV) (ty:TypeId) (p:Value),k≤ms.length∧iv = .int .i64 (k:Int)∧ev = .nilIface∧rv = .iface ty p∧runTo v (ms.map xOp) k u∧TrA wr u (.iface ty p)∧Below w1.heap.size w1 wr) (fun _ _ iv _=>ms.length - (intOf iv).toNat)
  case atStart=>exact⟨0,v,ty,p,Nat.zero_le _,rfl,rfl,rfl,uh HRUN,uh HTR1,Below.refl _ _⟩
  case round=>
   obtain⟨k,u,ty,p,hk,rfl,rfl,rfl,hrun,htr,hb⟩:=hrel
   by_cases hlt:k < ms.length
   ·obtain⟨lg,g,fid,rfl,q1,q2,hent,hcall⟩:=uh HOR k hlt wr hb u hrun.2 ty p htr
    have HC:=hide hcall
    have HB:=hide hb
    have HR:=hide hrun
    have hltI:(k:Int) < (ms.length:Int):=by omega
    have hkx:k < (ms.map xOp).length:=by simpa using hlt
    have hxk:(ms.map xOp)[k]=xOp ms[k]:=by simp
    clear hcall hb hrun htr HRUN HTR1 HOR
    go_wp2_with fail
    refine (uh HC).mono ?_
    rintro e w2 ⟨b2,⟨c,ev,hd,rfl,hf⟩ | ⟨r,t',p',hd,rfl,hr2⟩⟩
    ·have HX:=hide (apO_code (by have:=uh HBAD; omega) (runTo_code (uh HR) hkx (by rw[hxk]; exact hd)))
     have HF:=hide hf
     have HC0:Hid ((c:Int)≠0):=by have:=doV_code hd; show (c:Int)≠0; omega
     obtain⟨fb,rfl,-⟩:=hf
     have HB2:=hide (below_next (uh HB) b2)
     clear HC b2 hd HB HLN HPW q1 q2
     go_wp2
     go_ret2
     exact⟨below_next (below_next (uh HB1) (uh HB2)) (alloc_b _ _),.inl ⟨_,_,_,_,uh HX,uh HC0,rfl,opErr_at (uh HF)⟩⟩
    ·obtain⟨gr,lr⟩:=uh HLN k hlt u r (uh HR).2 hd
     have b12:=below_next (uh HB) b2
     have HWL:=hide (withinLimits_walk r gr.rd gr.tw w2 _ t' p' hr2 (fun _ h=>h) (uh HPW w2 (below_next (uh HB1) b12)) lr)
     have HD:Hid (doV u (ms.map xOp)[k] = .inr r):=by rw[hxk]; exact hd
     have HGR:=hide gr
     have HR2:=hide hr2
     have HB2:=hide b12
     clear HC b2 hd HB b12 gr lr hr2 q1 q2
     cases hlim:limV r with
     | true=>
      have e1:decide (depV r≤100∧cntV r≤3000∧(ct r).length≤20000)=true:=decide_eq_true ((limV_iff r).1 hlim)
      rw[e1] at HWL
      have HNX:=hide (runTo_next (uh HR) hkx (uh HD) (uh HGR) hlim)
      clear e1 hlim HD HGR
      go_wp2_with fail
      refine (uh HWL).mono ?_
      rintro e w3 ⟨rfl,b3⟩
      have HR3:=hide ((uh HR2).next b3)
      have HB3:=hide (below_next (uh HB2) b3)
      clear HWL b3 HR2 HB2
      go_wp2
      go_roundw
      case rel=>exact⟨k+1,r,t',p',by omega,by go_num,rfl,rfl,uh HNX,uh HR3,uh HB3⟩
      case measure=>simp[intOf]; omega
     | false=>
      have e1:decide (depV r≤100∧cntV r≤3000∧(ct r).length≤20000)=false:=decide_eq_false fun h=>by rw[(limV_iff r).2 h] at hlim; cases hlim
      rw[e1] at HWL
      have HX:=hide (apO_code (by have:=uh HBAD; omega) (runTo_big (uh HR) hkx (uh HD) hlim))
      clear e1 hlim HD HGR HR2 HLN HPW
      go_wp2_with fail
      refine (uh HWL).mono ?_
      rintro e w3 ⟨rfl,b3⟩
      have HB3:=hide (below_next (uh HB2) b3)
      clear HWL b3 HB2
      go_wp2
      go_ret2
      exact⟨below_next (below_next (below_next (uh HB1) (uh HB3)) (alloc_b _ _)) (alloc_b _ _),.inl ⟨_,_,_,_,uh HX,by decide,rfl,opErr_new _ _ _⟩⟩
   ·have HX:=hide (apO_tree (by have:=uh HBAD; omega) (runTo_end hrun (by simpa using hlt)))
    have HT:=hide htr
    have HGU:=hide hrun.2
    have HB:=hide hb
    clear hrun htr hb HLN HPW HOR
    go_wp2
    go_ret2
    exact⟨below_next (uh HB1) (uh HB),.inr ⟨u,ty,p,uh HX,uh HGU,rfl,uh HT⟩⟩
theorem eqOk:EqOk:=fun a b w ta tb pa pb ga gb la lb ha hb=>equal_all a b ga gb la lb w ta tb pa pb ha hb
theorem apR_bad {s:ByteArray} {ms:List POp} {c:Nat} (h:readR s = .inl c) : apR s ms=(⟨#[]⟩,1,0):=by unfold apR; rw[h]
theorem apR_code {s:ByteArray} {ms:List POp} {v:JV} {c i:Int} (h:readR s = .inr v) (ho:apO v ms = .inl (c,i)) : apR s ms=(⟨#[]⟩,c,i):=by
 unfold apO at ho
 unfold apR
 rw[h]
 simp only
 by_cases hb:0≤badI ms
 ·rw[if_pos hb] at ho ⊢
  injection ho with ho
  injection ho with h1 h2
  rw[h2,← h1]
 ·rw[if_neg hb] at ho ⊢
  cases hr:runV v (ms.map xOp) 0 with
  | inl ci=>
   rw[hr] at ho
   injection ho with ho
   injection ho with h1 h2
   simp only
   rw[← h1,← h2]
  | inr r=>rw[hr] at ho; cases ho
theorem apR_tree {s:ByteArray} {ms:List POp} {v r:JV} (h:readR s = .inr v) (ho:apO v ms = .inr r) : apR s ms=(strOf (ct r),0,0):=by
 unfold apO at ho
 unfold apR
 rw[h]
 simp only
 by_cases hb:0≤badI ms
 ·rw[if_pos hb] at ho; cases ho
 ·rw[if_neg hb] at ho ⊢
  cases hr:runV v (ms.map xOp) 0 with
  | inl ci=>rw[hr] at ho; cases ho
  | inr r'=>
   rw[hr] at ho
   injection ho with ho
   simp only
   rw[ho]
theorem implApply_walk (s:ByteArray) (x:Value) (ms:List POp) (bl:List Nat) (w:World) (hrow:ORow opE w x ms bl) (hs:szOps ms≤1048576) (hsz:s.size≤1048576) (hw:RdW w) (hg:TypV w) :
  Calls Tryz.prog 19 #[.string s,x] w fun e w'=>e = .returned (.tuple #[.string (apR s ms).1,.int .i64 (apR s ms).2.1,.int .i64 (apR s ms).2.2])∧Below w.heap.size w w':=by
 have HF:=hide (readText_walk s w hw.tab hw.err hw.pow (by omega))
 obtain⟨xa,xc,rfl,h1,hxa⟩:=hrow.form
 cases hr:readR s with
 | inl c=>
  have hc:=read_code hr
  have HR:=hide (apR_bad (ms:=ms) hr)
  rw[hr] at HF
  have t2:((c:Int) != 0)=true:=by simp; omega
  clear hr hc hrow hs hsz h1 hxa hw hg
  go_enter Tryz.func19,Tryz.ntmps19
  go_wp2_with fail
  refine (uh HF).mono ?_
  rintro e w1 ⟨b1,rfl⟩
  have HB1:=hide b1
  clear HF b1
  go_wp2
  go_ret3
  exact⟨by rw[uh HR]; rfl,uh HB1⟩
 | inr v=>
  have hgv:=GdV.of hr
  have HR:=hide hr
  rw[hr] at HF
  have HAP:Hid (∀ (wx:World) (t:TypeId) (p:Value),Below w.heap.size w wx→TrA wx v (.iface t p)→Calls Tryz.prog 51 #[.iface t p,.slice xa ms.length xc] wx (ApP wx (apO v ms))):=fun wx t p hx htr=>
   applyOps_walk eqOk moveOk v hgv _ ms bl wx t p (hrow.below hx) hs (hw.up hx) htr
  have HEX:Hid (∀ wx,Below w.heap.size w wx→RdW wx∧TypV wx):=fun wx hx=>⟨hw.up hx,hg.up hx⟩
  clear hr hrow hs hsz h1 hxa hw hg hgv
  go_enter Tryz.func19,Tryz.ntmps19
  go_wp2_with fail
  refine (uh HF).mono ?_
  rintro e w1 ⟨b1,t,p,rfl,rep⟩
  have HA:=hide (uh HAP w1 t p b1 (Rep.keep (fun _ _=>rfl) (fun k hk=>hk.2) _ _ rep))
  have HB1:=hide b1
  clear HF b1 rep HAP
  go_wp2_with fail
  refine (uh HA).mono ?_
  rintro e w2 ⟨b2,⟨c,i,t2,p2,ho,hc,rfl,he⟩ | ⟨u,t2,p2,ho,hu,rfl,htr⟩⟩
  ·have b02:=below_next (uh HB1) b2
   have HE:=hide (explain_err i c t2 p2 w2 he (uh HEX w2 b02).2)
   have HX:=hide (apR_code (uh HR) ho)
   have HB2:=hide b02
   have tc:(c != 0)=true:=by simpa using hc
   clear HA b2 b02 HB1 ho hc he HEX
   go_wp2_with fail
   refine (uh HE).mono ?_
   rintro e w3 ⟨rfl,b3⟩
   have HB3:=hide (below_next (uh HB2) b3)
   clear HE b3 HB2
   go_wp2
   go_ret3
   exact⟨by rw[uh HX]; rfl,uh HB3⟩
  ·have b02:=below_next (uh HB1) b2
   have HE:=hide (explain_nil w2)
   have HX:=hide (apR_tree (uh HR) ho)
   have HB2:=hide b02
   have HU:=hide hu
   have HT:=hide htr
   clear HA b2 b02 HB1 ho hu htr
   go_wp2_with fail
   refine (uh HE).mono ?_
   rintro e w3 ⟨rfl,b3⟩
   have b03:=below_next (uh HB2) b3
   have hul:=(uh HU).len
   have HC:=hide (canonText_walk u (uh HU).ok (uh HU).tw t2 p2 w3 _ ((uh HT).next b3) (fun _ h=>h) (uh HEX w3 b03).1.pow (by omega))
   have HB3:=hide b03
   clear HE b3 b03 HB2 HU HT hul HEX
   go_wp2_with fail
   refine (uh HC).mono ?_
   rintro e w4 ⟨rfl,b4⟩
   have HB4:=hide (below_next (uh HB3) b4)
   clear HC b4 HB3
   go_wp2
   go_ret3
   exact⟨by rw[uh HX]; rfl,uh HB4⟩
theorem applyLaw_in (s:ByteArray) (v:Value) (ms:List POp) (w:World) (hr:RRow opR w v ms) (hw:RdW w) (hg:TypV w) :
  Calls Tryz.prog 5 #[.string s,v] w fun e w'=>e = .returned (.bool true)∧Below w.heap.size w w':=by
 have HR:=hide hr
 have HS:=hide (szOps_walk v ms 1048576 w hr (Nat.le_refl _))
 clear hr
 by_cases hz:s.size≤1048576
 ·have hzI:¬ (1048576:Int) < (s.size:Int):=by omega
  by_cases hsz:szOps ms≤1048576
  ·rw[szI_ok hsz] at HS
   have HT:Hid (∀ wx,Below w.heap.size w wx→Calls Tryz.prog 18 #[v] wx fun e w'=>∃ v' bl,e = .returned v'∧ORow opE w' v' ms bl∧Fsh wx.heap.size bl∧Below wx.heap.size wx w'):=fun wx hx=>toOps_walk v ms wx ((uh HR).below hx) hsz
   have hle:1048576 - szOps ms≤1048576:=by omega
   generalize 1048576 - szOps ms=L at *
   obtain⟨es,hes⟩ : ∃ es,(apR s ms).1=es:=⟨_,rfl⟩
   obtain⟨ec,hec⟩ : ∃ ec,(apR s ms).2.1=ec:=⟨_,rfl⟩
   obtain⟨ei,hei⟩ : ∃ ei,(apR s ms).2.2=ei:=⟨_,rfl⟩
   have HES:=hide hes
   have HEC:=hide hec
   have HEI:=hide hei
   clear hes hec hei
   go_enter Tryz.func5,Tryz.ntmps5
   go_wp2_with fail
   refine (uh HS).mono ?_
   rintro e w1 ⟨rfl,b1⟩
   have HT1:=hide (uh HT w1 b1)
   have HB1:=hide b1
   clear HS b1
   go_wp2_with fail
   refine (uh HT1).mono ?_
   rintro e w2 ⟨v2,bl2,rfl,o2,_,b2⟩
   have HE:=hide (specApply_walk s v2 ms bl2 w2 o2 (opsIn hsz) hz)
   rw[uh HES,uh HEC,uh HEI] at HE
   have HB2:=hide (below_next (uh HB1) b2)
   clear HT1 o2 b2 HB1
   go_wp2_with fail
   refine (uh HE).mono ?_
   rintro e w3 ⟨rfl,b3⟩
   have b03:=below_next (uh HB2) b3
   have HT3:=hide (uh HT w3 b03)
   have HB3:=hide b03
   clear HE b3 b03 HB2
   go_wp2_with fail
   refine (uh HT3).mono ?_
   rintro e w4 ⟨v4,bl4,rfl,o4,_,b4⟩
   have b04:=below_next (uh HB3) b4
   have HI:=hide (implApply_walk s v4 ms bl4 w4 o4 hsz hz (hw.up b04) (hg.up b04))
   rw[uh HES,uh HEC,uh HEI] at HI
   have HB4:=hide b04
   have HO4:=hide o4
   obtain⟨xa,xc,rfl,_,_⟩:=o4.form
   clear HT3 o4 b4 b04 HB3
   go_wp2_with fail
   refine (uh HI).mono ?_
   rintro e w5 ⟨rfl,b5⟩
   have b05:=below_next (uh HB4) b5
   have HO5:=hide ((uh HO4).below b5)
   have HB5:=hide b05
   have HT5:=hide (uh HT w5 b05)
   clear HI b5 b05 HB4 HO4
   go_wp2_with fail
   refine (uh HT5).mono ?_
   rintro e w6 ⟨v6,bl6,rfl,o6,_,b6⟩
   have HQ:=hide (eqOps_walk _ v6 ms bl4 bl6 w6 ((uh HO5).below b6) o6)
   have HB6:=hide (below_next (uh HB5) b6)
   clear HT5 o6 b6 HB5 HO5
   go_wp2_with fail
   refine (uh HQ).mono ?_
   rintro e w7 ⟨rfl,b7⟩
   have HB7:=hide (below_next (uh HB6) b7)
   clear HQ b7 HB6
   go_wp2
   go_ret
   exact⟨rfl,uh HB7⟩
  ·rw[szI_no (by omega)] at HS
   go_enter Tryz.func5,Tryz.ntmps5
   go_wp2_with fail
   refine (uh HS).mono ?_
   rintro e w1 ⟨rfl,b1⟩
   clear HS
   go_wp2
   go_ret
   exact⟨rfl,b1⟩
 ·have hzI:(1048576:Int) < (s.size:Int):=by omega
  clear HS HR
  go_enter Tryz.func5,Tryz.ntmps5
  go_wp2
  go_ret
  exact⟨rfl,Below.refl _ _⟩
theorem one_row:((List.range Tryz.prog.types.size).filter fun t=>Tryz.prog.rowNamed t [101,114,114,111,114])=[86]:=by kernel_rfl
theorem rt_row : (Tryz.prog.cutTypes.find? (·.1 == "internal/reflectlite.rtype")).map (·.2) = some 249 := by kernel_rfl
theorem typ_at {W : World} (h : handlesMet Tryz.prog [("errors.errorType", Rows.laid_errors_errorType)] W) : TypV W := by
 obtain⟨name,u,ty,e1,e2,e3,e4,e5⟩:=h _ (List.mem_singleton.2 rfl)
 have en:name=[101,114,114,111,114]:=(Option.some.inj e1).symm
 subst en
 obtain rfl:=Option.some.inj (rt_row.symm.trans e2)
 have hm:ty∈(List.range Tryz.prog.types.size).filter fun t=>Tryz.prog.rowNamed t [101,114,114,111,114]:=List.mem_filter.2 ⟨List.mem_range.2 e3,e4⟩
 rw[one_row] at hm
 obtain rfl:=List.mem_singleton.1 hm
 have hh:typeHandle Tryz.prog 86 = .pointer (some ⟨9,86,none⟩):=by kernel_rfl
 rw[hh] at e5
 exact World.var?_cell (show Tryz.prog.globalNamed "errors.errorType" = some 0 by kernel_rfl) e5 0
def VarsOk (w:World) : Prop:=(Tabs w∧ErrB w.heap.size w∧PowB w.heap.size w)∧TypV w
theorem tables_of {W:World} (hL:laidMetH Tryz.prog Rows.fnExactApplyRow.laid W) : VarsOk W:=by
 have h : laidMet Tryz.prog laidAll W ∧ handlesMet Tryz.prog [("errors.errorType", Rows.laid_errors_errorType)] W := hL
 exact⟨⟨tabs_at h.1,err_at h.1,pow_at h.1⟩,typ_at h.2⟩
theorem applyLaw_walk (s:ByteArray) (v:Value) (ms:List POp) (w:World) (hr:RRow opR w v ms) (hm:ML w) (h:VarsOk w) :
  Calls Tryz.prog 5 #[.string s,v] w fun e w'=>e = .returned (.bool true)∧Below w.heap.size w w':=applyLaw_in s v ms w hr ⟨TabsB.of h.1.1,h.1.2.1,h.1.2.2,hm⟩ h.2
end Go.Proofs.YtocnekbedcnmgaaGreatDoor
