import Derived.Test.YtekpghcckdjnhaaGreatDoorBa45
import Derived.Test.YtekpghcckdjnhaaGreatDoorBa48
set_option maxRecDepth 100000
set_option maxHeartbeats 8000000
namespace Go.Proofs.YtekpghcckdjnhaaGreatDoor
open Go.RowKit Go.Proofs.Tryz
def apO (v:JV) (ms:List POp) : (Int×Int)⊕JV:=if 0<=zep ms then .inl (2,zep ms) else match zkh v (ms.map xOp) 0 with
 | .inl ci=>.inl ((ci.1:Int),(ci.2:Int))
 | .inr r=>.inr r
theorem zvu {v:JV} {ms:List POp} (h:0<=zep ms) : apO v ms = .inl (2,zep ms):=by unfold apO; rw[yg h]
theorem zn0 {v:JV} {ms:List POp} {c i:Nat} (h:¬ 0<=zep ms) (hr:zkh v (ms.map xOp) 0 = .inl (c,i)) : apO v ms = .inl ((c:Int),(i:Int)):=by unfold apO; rw[yf h,hr]
theorem ztj {v r:JV} {ms:List POp} (h:¬ 0<=zep ms) (hr:zkh v (ms.map xOp) 0 = .inr r) : apO v ms = .inr r:=by unfold apO; rw[yf h,hr]
def ApP (w:World) (o:(Int×Int)⊕JV) (e:Ending) (w':World) : Prop:=Below w.heap.size w w' /\
 ((∃ c i t p,o = .inl (c,i)/\c≠0/\e = .returned (.tuple #[.nilIface,.iface t p])/\zqS w' i c (.iface t p))∨∃ u t p,o = .inr u/\GdV u/\e = .returned (.tuple #[.iface t p,.nilIface])/\TrA w' u (.iface t p))
theorem ztk {w:World} {i c:Int} {t:TypeId} {p:Value} (h:zoY w c (.iface t p)) : zqS (w.alloc (.cells #[.int .i64 i,.iface t p] 169)) i c (.iface 164 (.pointer (some ⟨w.heap.size,0,none⟩))):=
 ⟨w.heap.size,_,rfl,yG w _,h.next (zag _ _)⟩
theorem ztl (hEq:zwz) (hMv:znU) {w w1:World} {la:Option Addr} {lc:Nat} {ms:List POp} {qs:List OpQ} (hL:zvl w1 w.heap.size (zvm w.heap.size w1 (.slice la qs.length lc)) (.slice la qs.length lc) ms qs) (hin:zsq ms) (hok:∀ m∈ms,zdv m=true) {k:Nat} (hk:k < ms.length) {wr:World} (hb:Below w1.heap.size w1 wr) (hw:RdW wr) {u:JV} (hu:GdV u) {ty:TypeId} {p:Value} (hr:TrA wr u (.iface ty p)) :
  ∃ lg g fid,la=some ⟨lg,0,none⟩/\wr.cell? ⟨lg,k,none⟩=some (.pointer (some ⟨g,0,none⟩))/\wr.cell? ⟨g,6,none⟩=some (.func (Fn.func fid) #[] #[])/\(∀ (w:World),Sem.run prog (callFunc fid #[.iface ty p,.pointer (some ⟨g,0,none⟩)]) w = .ok (.enter fid #[.iface ty p,.pointer (some ⟨g,0,none⟩)]) w) /\
   Calls prog fid #[.iface ty p,.pointer (some ⟨g,0,none⟩)] wr (zbI wr (doV u (xOp ms[k]))):=by
 have hlen:=hL.len
 have row:=zaj hL.row hb
 obtain⟨lg,rfl⟩ : ∃ g,la=some ⟨g,0,none⟩:=by
  rcases row.2 with ⟨_,hn⟩ | ⟨g,cap,cur,hv,_⟩
  ·omega
  ·injection hv with hv _ _; exact⟨g,hv⟩
 have hkq:k < qs.length:=by omega
 have cg:wr.cell? ⟨lg,k,none⟩=some (zxO qs[k]):=by
  rw[row.cellAt k (by simpa using hkq),List.getElem?_map,yx hkq]; rfl
 have hops:=hL.ops k ms[k] qs[k] (yx hk) (yx hkq)
 have hopw:OpS wr (zvm w.heap.size w1 (.slice (some ⟨lg,0,none⟩) qs.length lc)) ms[k] qs[k]:=hops.keep (fun j hj=>hb.block j hj.2.1) (fun _ h=>h)
 obtain⟨i1,i2,i3⟩:=hin ms[k] (yr hk)
 obtain⟨k1,k6,hval⟩:=znE (hok ms[k] (yr hk))
 obtain⟨g1,g2⟩:=zhh ms[k]
 obtain⟨pa,fa,pg,pc,fg,fc,vt,vp,hM⟩:=hopw.toM (fun j hj=>yE hj.2.1 hb.size) i1 i2 (zpE ms[k]) (fun hv=>by
  have h1:=(hval hv).1
  rw[(hopw.val hv).1] at h1
  injection h1 with h1
  exact h1.symm)
 obtain⟨t1,_⟩:=zgG ms[k].path i1
 obtain⟨t2,_⟩:=zgG ms[k].src i2
 have hul:=hu.len
 obtain⟨fid,hf,hent,hcall⟩:=zq1 hEq hMv u (xOp ms[k]) wr ty p k1 k6 hw hu.t (by omega) g1 (by show (ct (zpE ms[k])).length<=_; omega) hr hM t2 t1 (fun m hm=>by have:=zcb hu.t hm; omega)
 refine⟨lg,qs[k].g,fid,rfl,cg,?_,fun w=>hent _ w,hcall⟩
 have hb6:=hopw.blk
 unfold opB at hb6
 rw[show wr.cell? ⟨qs[k].g,6,none⟩=some (zd4 ms[k].kind) from yF hb6 6]
 exact congrArg some hf
theorem zjP (hEq:zwz) (hMv:znU) (v:JV) (hv:GdV v) (x:Value) (ms:List POp) (bl:List Nat) (w:World) (ty:TypeId) (p:Value) (hrow:zbt opE w x ms bl) (hs:zv9 ms) (hw:RdW w) (hr:TrA w v (.iface ty p)) :
  Calls prog 104 #[.iface ty p,x] w (ApP w (apO v ms)):=by
 have HRO:=zab (zjG x ms bl w hrow hs hw)
 obtain⟨xa,xc,rfl,h1,hxa⟩:=hrow.form
 clear hrow h1 hxa
 by_cases hbad:0<=zep ms
 ·have HX:=zab (zvu (v:=v) hbad)
  have HBAD:=zab hbad
  clear hbad hr hw hs
  go_enter func104,ntmps104
  go_wp2_with fail
  refine (uh HRO).mono ?_
  rintro e w1 ⟨b1,hb,-⟩
  obtain⟨t,q,rfl,he⟩:=hb (uh HBAD)
  have HE:Hid (ApP w (apO v ms) (.returned (.tuple #[.nilIface,.iface t q])) w1):=⟨b1,.inl ⟨2,zep ms,t,q,uh HX,by decide,rfl,he⟩⟩
  clear HRO hb b1 he
  go_wp2
  go_ret2
  exact uh HE
 ·obtain⟨hl100,hall⟩:=znF hbad
  have hin:=hs.1
  have HBAD:=zab hbad
  have HTR:=zab hr
  have HRUN:Hid (zjq v (ms.map xOp) 0 v):=⟨rfl,hv⟩
  clear hbad hr
  go_enter func104,ntmps104
  go_wp2_with fail
  refine (uh HRO).mono ?_
  rintro e w1 ⟨b1,-,hg⟩
  obtain⟨lv,qs,rfl,hL⟩:=hg (by have:=uh HBAD; omega)
  obtain⟨la,lc,rfl⟩ : ∃ la lc,lv = .slice la qs.length lc:=by
   rcases hL.row.2 with ⟨hv,hn⟩ | ⟨g,cap,cur,hv,_⟩
   ·exact⟨none,0,by rw[hv,hn]⟩
   ·exact⟨some ⟨g,0,none⟩,cap,hv⟩
  have hlen:=hL.len
  have HOR:Hid (∀ (k:Nat) (hk:k < ms.length) (wr:World),Below w1.heap.size w1 wr->∀ (u:JV),GdV u->∀ ty p,TrA wr u (.iface ty p)->∃ lg g fid,la=some ⟨lg,0,none⟩/\wr.cell? ⟨lg,k,none⟩=some (.pointer (some ⟨g,0,none⟩))/\wr.cell? ⟨g,6,none⟩=some (.func (Fn.func fid) #[] #[])/\(∀ (w:World),Sem.run prog (callFunc fid #[.iface ty p,.pointer (some ⟨g,0,none⟩)]) w = .ok (.enter fid #[.iface ty p,.pointer (some ⟨g,0,none⟩)]) w) /\
    Calls prog fid #[.iface ty p,.pointer (some ⟨g,0,none⟩)] wr (zbI wr (doV u (xOp ms[k])))):=fun k hk wr hb u hu ty p hr=>ztl hEq hMv hL hin hall hk hb (hw.up (zaa b1 hb)) hu hr
  have HPW:Hid (∀ wr,Below w.heap.size w wr->zjs wr.heap.size wr):=fun wr hx=>(hw.up hx).pow
  have HLN:Hid (∀ (k:Nat) (hk:k < ms.length) (u r:JV),GdV u->doV u (xOp ms[k]) = .inr r->GdT r/\(ct r).length<=10000000):=fun k hk u r hu hd=>by
   obtain⟨g1,g2⟩:=zhh ms[k]
   obtain⟨i1,i2,i3⟩:=hin ms[k] (yr hk)
   have hdl:=zqq hu.t hd (zgG ms[k].path i1).2
   have hul:=hu.len
   refine⟨znu hu.t g1 hd,?_⟩
   have:(ct (xOp ms[k]).val).length<=20000:=g2
   omega
  have HTR1:=zab ((uh HTR).next b1)
  have HB1:=zab b1
  rw[hlen]
  clear HRO hg hL b1 hw hs hin hall HTR hEq hMv hlen hv
  go_wp2_with fail
  go_loopw [0,7,20] (fun rv ev iv wr=>∃ (k:Nat) (u:JV) (ty:TypeId) (p:Value),k<=ms.length/\iv = .int .i64 (k:Int)/\ev = .nilIface/\rv = .iface ty p/\zjq v (ms.map xOp) k u/\TrA wr u (.iface ty p)/\Below w1.heap.size w1 wr) (fun _ _ iv _=>ms.length - (intOf iv).toNat)
  case atStart=>exact⟨0,v,ty,p,yt _,rfl,rfl,rfl,uh HRUN,uh HTR1,yH _ _⟩
  case round=>
   obtain⟨k,u,ty,p,hk,rfl,rfl,rfl,hrun,htr,hb⟩:=hrel
   by_cases hlt:k < ms.length
   ·obtain⟨lg,g,fid,rfl,q1,q2,hent,hcall⟩:=uh HOR k hlt wr hb u hrun.2 ty p htr
    have HC:=zab hcall
    have HB:=zab hb
    have HR:=zab hrun
    have hltI:(k:Int) < (ms.length:Int):=by omega
    have hkx:k < (ms.map xOp).length:=by simpa using hlt
    have hxk:(ms.map xOp)[k]=xOp ms[k]:=by simp
    clear hcall hb hrun htr HRUN HTR1 HOR
    go_wp2_with fail
    refine (uh HC).mono ?_
    rintro e w2 ⟨b2,⟨c,ev,hd,rfl,hf⟩ | ⟨r,t',p',hd,rfl,hr2⟩⟩
    ·have HX:=zab (zn0 (by have:=uh HBAD; omega) (ziI (uh HR) hkx (by rw[hxk]; exact hd)))
     have HF:=zab hf
     have HC0:Hid ((c:Int)≠0):=by have:=znG hd; show (c:Int)≠0; omega
     obtain⟨fb,rfl,-⟩:=hf
     have HB2:=zab (zaa (uh HB) b2)
     clear HC b2 hd HB HLN HPW q1 q2
     go_wp2
     go_ret2
     exact⟨zaa (zaa (uh HB1) (uh HB2)) (zag _ _),.inl ⟨_,_,_,_,uh HX,uh HC0,rfl,ztk (uh HF)⟩⟩
    ·obtain⟨gr,lr⟩:=uh HLN k hlt u r (uh HR).2 hd
     have b12:=zaa (uh HB) b2
     have HWL:=zab (zf9 r gr.rd gr.tw w2 _ t' p' hr2 (fun _ h=>h) (uh HPW w2 (zaa (uh HB1) b12)) lr)
     have HD:Hid (doV u (ms.map xOp)[k] = .inr r):=by rw[hxk]; exact hd
     have HGR:=zab gr
     have HR2:=zab hr2
     have HB2:=zab b12
     clear HC b2 hd HB b12 gr lr hr2 q1 q2
     cases hlim:zpD r with
     | true=>
      have e1:decide (zaY r<=100/\zaA r<=3000/\(ct r).length<=20000)=true:=yj ((zfj r).1 hlim)
      rw[e1] at HWL
      have HNX:=zab (ziH (uh HR) hkx (uh HD) (uh HGR) hlim)
      clear e1 hlim HD HGR
      go_wp2_with fail
      refine (uh HWL).mono ?_
      rintro e w3 ⟨rfl,b3⟩
      have HR3:=zab ((uh HR2).next b3)
      have HB3:=zab (zaa (uh HB2) b3)
      clear HWL b3 HR2 HB2
      go_wp2
      go_roundw
      case rel=>exact⟨k+1,r,t',p',by omega,by go_num,rfl,rfl,uh HNX,uh HR3,uh HB3⟩
      case measure=>simp[intOf]; omega
     | false=>
      have e1:decide (zaY r<=100/\zaA r<=3000/\(ct r).length<=20000)=false:=yk fun h=>by rw[(zfj r).2 h] at hlim; cases hlim
      rw[e1] at HWL
      have HX:=zab (zn0 (by have:=uh HBAD; omega) (zhg (uh HR) hkx (uh HD) hlim))
      clear e1 hlim HD HGR HR2 HLN HPW
      go_wp2_with fail
      refine (uh HWL).mono ?_
      rintro e w3 ⟨rfl,b3⟩
      have HB3:=zab (zaa (uh HB2) b3)
      clear HWL b3 HB2
      go_wp2
      go_ret2
      exact⟨zaa (zaa (zaa (uh HB1) (uh HB3)) (zag _ _)) (zag _ _),.inl ⟨_,_,_,_,uh HX,by decide,rfl,zhy _ _ _⟩⟩
   ·have HX:=zab (ztj (by have:=uh HBAD; omega) (zkH hrun (by simpa using hlt)))
    have HT:=zab htr
    have HGU:=zab hrun.2
    have HB:=zab hb
    clear hrun htr hb HLN HPW HOR
    go_wp2
    go_ret2
    exact⟨zaa (uh HB1) (uh HB),.inr ⟨u,ty,p,uh HX,uh HGU,rfl,uh HT⟩⟩
theorem zyR:zwz:=fun a b w ta tb pa pb ga gb la lb ha hb=>zq7 a b ga gb la lb w ta tb pa pb ha hb
theorem ztm {s:ByteArray} {ms:List POp} {v:JV} {c i:Int} (h:zaZ s = .inr v) (ho:apO v ms = .inl (c,i)) : apR s ms=(⟨#[]⟩,c,i):=by
 unfold apO at ho
 unfold apR
 rw[h]
 simp only
 by_cases hb:0<=zep ms
 ·rw[yg hb] at ho ⊢
  injection ho with ho
  injection ho with h1 h2
  rw[h2,← h1]
 ·rw[yf hb] at ho ⊢
  cases hr:zkh v (ms.map xOp) 0 with
  | inl ci=>
   rw[hr] at ho
   injection ho with ho
   injection ho with h1 h2
   simp only
   rw[← h1,← h2]
  | inr r=>rw[hr] at ho; cases ho
theorem ztn {s:ByteArray} {ms:List POp} {v r:JV} (h:zaZ s = .inr v) (ho:apO v ms = .inr r) : apR s ms=(zac (ct r),0,0):=by
 unfold apO at ho
 unfold apR
 rw[h]
 simp only
 by_cases hb:0<=zep ms
 ·rw[yg hb] at ho; cases ho
 ·rw[yf hb] at ho ⊢
  cases hr:zkh v (ms.map xOp) 0 with
  | inl ci=>rw[hr] at ho; cases ho
  | inr r'=>
   rw[hr] at ho
   injection ho with ho
   simp only
   rw[ho]
theorem zvv {w:World} {vs:List Value} {x:POp} {bl:List Nat} (h:opE.E w vs x bl) : ∀ u∈vs,u.oneCell'=true:=by
 obtain⟨rfl,_⟩:=h
 intro u hu; simp at hu; rcases hu with rfl | rfl | rfl | rfl <;> rfl
theorem zvw:(prog.info? opE.T).map (fun i=>(i.zero,i.size,i.bytes))=some (some (.agg #[.int .i64 0,.string ByteArray.empty,.string ByteArray.empty,.string ByteArray.empty]),opE.wd,56):=zxf
theorem zto {w:World} {v:Value} {xs:List POp} {B:Nat} (h:zbt opE w v xs v.ownBlock.toList) (hB:∀ g,v.ownBlock=some g->B<=g) : OPr w B v xs:=by
 obtain⟨ps,hl,hE,ho,hb⟩:=h
 have e:ps.flatMap (·.1)=xs.flatMap opV:=by
  have:ps.map (·.1)=xs.map opV:=List.ext_getElem (by simp[hl]) fun j h1 h2=>by
   simp only[List.getElem_map]
   simp only[yl] at h1 h2
   exact (hE j ps[j] xs[j] (yx h1) (yx h2)).1
  rw[List.flatMap_def,List.flatMap_def,this]
 unfold OPr
 rw[← e]
 refine⟨ho.1,?_⟩
 rcases ho.2 with h0 | ⟨g,cap,cur,hv,_,r⟩
 ·exact .inl h0
 ·exact .inr ⟨g,cap,cur,hv,hB g (by rw[hv]; rfl),r⟩
theorem ziq (v:Value) (xs:List POp) (B:Nat) (w:World) (h:OPr w B v xs) (hm:xs.length<=1048577) :
  Calls prog 58 #[v] w fun e w'=>∃ v',e = .returned v'/\OPr w' w.heap.size v' xs/\Below w.heap.size w w':=by
 have H:Hid (zbt opE w v xs (v.ownBlock.toList++[])):=by show zbt _ _ _ _ _; rw[List.append_nil]; exact h.orow.1
 clear h
 go_enter func58,ntmps58
 go_wp2_with (at_builtin; refine zfZ (e:=opE) zvv underlying26 zvw rfl (by decide) (by decide) rfl (.const (.slice none 0 0)) (.tmp 3) rfl rfl rfl (uh H) (by omega) ?_)
 intro v' w' ho hB hb
 have HO:=zab ho
 have HBB:=zab hB
 have HBE:=zab hb
 clear ho hB hb H
 go_wp2
 go_ret
 exact⟨_,rfl,zto (uh HO) (uh HBB),uh HBE⟩
def DrV (rt:Value) : Prop:=rt = .nilIface∨∃ t p,rt = .iface t p
theorem zir (v:Value) (xs:List POp) (B:Nat) (b t:Int) (d:ByteArray) (rt:Value) (w:World) (h:OPr w B v xs) (hm:xs.length<=1048577) (hr:DrV rt) :
  Calls prog 28 #[.agg #[v,.int .i64 b,.string d,.int .i64 t,rt]] w fun e w'=>∃ v',e = .returned (.agg #[v',.int .i64 b,.string d,.int .i64 t])/\OPr w' w.heap.size v' xs/\Below w.heap.size w w':=by
 obtain⟨a,cap,rfl⟩:=zbX h
 have HH:=zab h
 clear h
 have hA:=zwj w (.cells #[.slice a xs.length cap,.int .i64 b,.string d,.int .i64 t,rt] 68) (.cells #[.slice none 0 0,.int .i64 0,.string ⟨#[]⟩,.int .i64 0] 28) (.cells #[.slice a xs.length cap,.int .i64 b,.string d,.int .i64 t] 28)
 have HA:=zab hA
 clear hA
 rcases hr with rfl | ⟨ty,p,rfl⟩
 all_goals (
  go_enter func28,ntmps28
  go_wp2_with fail
  generalize ((w.alloc _).alloc _).alloc _=wA at *
  have hA:=uh HA
  refine (ziq _ xs B wA (zaj (uh HH) hA.bel) hm).mono ?_
  rintro e w1 ⟨v',rfl,o1,b1⟩
  obtain⟨a',cap',rfl⟩:=zbX o1
  have hz:=hA.size
  have hz1:=b1.size
  have k1:=(b1.block (w.heap.size+1) (by omega)).trans hA.k1
  have k2:=(b1.block (w.heap.size+1+1) (by omega)).trans hA.k2
  obtain⟨c0,c1,c2,c3⟩:=Cl4.of k1
  obtain⟨d0,d1,d2,d3⟩:=Cl4.of k2
  have f1:=yI k1
  have f2:=yI k2
  have HK1:=zab k1
  have HO1:=zab o1
  have HB1:=zab (zaa hA.bel b1)
  clear hA HA b1 o1 k1 k2 HH
  go_wp2
  refine bodyPost_ret (results_cell_row rfl _ _ (w.heap.size+1) 28 #[_,_,_,_] (0,0) _ rfl (zat (w:=putN w1 (w.heap.size+1+1) 0 [_]) ((za9 (by omega) _ _).trans (uh HK1)) [_,_,_,_] rfl) underlying28 rfl (by kernel_rfl)) rfl ?_
  exact⟨_,rfl,zaC (zd9 (zd9 (uh HO1) (by omega) [_] 0) (by omega) [_,_,_,_] 0) (by omega),zah (zah (uh HB1) (by omega) [_] 0) (by omega) [_,_,_,_] 0⟩)
def DfP (b:Bg) (tr:Int) (B:Nat) (w:World) (e:Ending) (w':World) : Prop:=∃ v tr' rt,e = .returned (.tuple #[.agg #[v,.int .i64 b.base,.string b.doc,.int .i64 tr',rt],.agg #[.int .i64 b.kind,.int .i64 b.code,.int .i64 b.pos,.int .i64 0]])/\tr'=(if b.kind=1 then tr else 0)/\OPr w' B v b.ops/\DrV rt/\Below w.heap.size w w'
structure DB (b:Nat) (w:World) : Prop where
 k1:w.heap[b]?=some (.cells #[.slice none 0 0,.int .i64 0,.string ⟨#[]⟩,.int .i64 0,.nilIface] 68 (0,0))
 k2:w.heap[b+1]?=some (.cells #[.int .i64 0,.int .i64 0,.int .i64 0,.int .i64 0] 30 (0,0))
theorem DB.next {b:Nat} {w w':World} (h:DB b w) (hb:Below w.heap.size w w') : DB b w':=
 ⟨(hb.block b (yB.1 h.k1).1).trans h.k1,(hb.block (b+1) (yB.1 h.k2).1).trans h.k2⟩
def Cl5 (g:Nat) (a b c d e:Value) (w:World) : Prop:=w.cell? ⟨g,0,none⟩=some a/\w.cell? ⟨g,1,none⟩=some b/\w.cell? ⟨g,2,none⟩=some c/\w.cell? ⟨g,3,none⟩=some d/\w.cell? ⟨g,4,none⟩=some e
theorem Cl5.of {g:Nat} {a b c d e:Value} {w:World} {t:TypeId} (h:w.heap[g]?=some (.cells #[a,b,c,d,e] t (0,0))) : Cl5 g a b c d e w:=⟨yF h 0,yF h 1,yF h 2,yF h 3,yF h 4⟩
theorem zxe {s:ByteArray} {ms:List POp} {v:JV} (h:zaZ s = .inr v) : (∀ c i,apO v ms = .inl (c,i)->apR s ms=(⟨#[]⟩,c,i))/\(∀ r,apO v ms = .inr r->apR s ms=(zac (ct r),0,0)):=
 ⟨fun _ _=>ztm h,fun _=>ztn h⟩
theorem ztp (hb:Nat) (no:Int) (doc:ByteArray) (q nx:Value) (t:TypeId) (p:Value) (jv:JV) (v:Value) (ms:List POp) (B:Nat) (tr:Int) (w:World) (hk:w.heap[hb]?=some (.cells #[.int .i64 no,.string doc,q,.iface t p,nx] 109 (0,0)))
  (hr:zaZ doc = .inr jv) (hrep:TrA w jv (.iface t p)) (ho:OPr w B v ms) (hin:zv9 ms) (hw:RdW w) (hg:znY w) :
  Calls prog 57 #[.pointer (some ⟨hb,0,none⟩),v,.int .i64 tr] w (DfP (bgA no (apR doc ms) ms) tr B w):=by
 obtain⟨a,cap,rfl⟩:=zbX ho
 have hlt:=(yB.1 hk).1
 have hA:=zsd w (.cells #[.slice none 0 0,.int .i64 0,.string ⟨#[]⟩,.int .i64 0,.nilIface] 68) (.cells #[.int .i64 0,.int .i64 0,.int .i64 0,.int .i64 0] 30)
 have hDB:DB w.heap.size ((w.alloc (.cells #[.slice none 0 0,.int .i64 0,.string ⟨#[]⟩,.int .i64 0,.nilIface] 68)).alloc (.cells #[.int .i64 0,.int .i64 0,.int .i64 0,.int .i64 0] 30)):=⟨hA.k0,hA.k1⟩
 have kA:=(hA.bel.block hb hlt).trans hk
 have c3:((w.alloc (.cells #[.slice none 0 0,.int .i64 0,.string ⟨#[]⟩,.int .i64 0,.nilIface] 68)).alloc (.cells #[.int .i64 0,.int .i64 0,.int .i64 0,.int .i64 0] 30)).cell? ⟨hb,3,none⟩=some (.iface t p):=yF kA 3
 have HAP:Hid (Calls _ _ _ ((w.alloc (.cells #[.slice none 0 0,.int .i64 0,.string ⟨#[]⟩,.int .i64 0,.nilIface] 68)).alloc (.cells #[.int .i64 0,.int .i64 0,.int .i64 0,.int .i64 0] 30)) _):=zjP zyR zwA jv (GdV.of hr) _ ms _ _ t p (ho.orow.1.below hA.bel) hin (hw.up hA.bel) (hrep.next hA.bel)
 have HW:Hid (∀ wx,Below w.heap.size w wx->RdW wx/\znY wx/\OPr wx B (.slice a ms.length cap) ms):=fun wx hx=>⟨hw.up hx,hg.up hx,zaj ho hx⟩
 have HK:Hid (∀ wx,Below w.heap.size w wx->wx.heap[hb]?=some (.cells #[.int .i64 no,.string doc,q,.iface t p,nx] 109 (0,0))):=fun wx hx=>(hx.block hb hlt).trans hk
 have HA:=zab hA
 have HLT:Hid (∀ b,(Value.slice a ms.length cap).ownBlock=some b->b < w.heap.size):=fun b hb=>(ho.lt b hb).2
 have HDB:=zab hDB
 have HRF:=zab (zxe (ms:=ms) hr)
 clear hA kA hk hr hrep ho hin hw hg hDB hlt
 go_enter func57,ntmps57
 go_wp2_with fail
 generalize (w.alloc _).alloc _=wA at *
 have hsz:=(uh HA).size
 refine (uh HAP).mono ?_
 rintro e w2 ⟨b2,⟨c,i,t2,p2,hap,hc,rfl,he⟩ | ⟨u,t2,p2,hap,hu,rfl,htr⟩⟩
 ·have b02:=zaa (uh HA).bel b2
  have HE:=zab (zmO i c t2 p2 w2 he (uh HW w2 b02).2.1)
  have HX:=zab ((uh HRF).1 c i hap)
  have HD2:=zab ((uh HDB).next b2)
  have HB2:=zab b02
  have tc:(c != 0)=true:=by simpa using hc
  have HC:=zab hc
  clear HAP b2 b02 hap hc he HDB c3 HRF
  go_wp2_with fail
  refine (uh HE).mono ?_
  rintro e w3 ⟨rfl,b3⟩
  have HD3:=zab ((uh HD2).next b3)
  have HB3:=zab (zaa (uh HB2) b3)
  obtain⟨c0,c1,c2,c3,c4⟩:=Cl5.of (uh HD3).k1
  obtain⟨d0,d1,d2,d3⟩:=Cl4.of (uh HD3).k2
  have f1:=yI (uh HD3).k1
  have f2:=yI (uh HD3).k2
  clear HE b3 HB2 HD2
  go_wp2
  refine bodyPost_ret (zcK rfl _ [_,_,_,_,_] [_,_,_,_] rfl rfl (uh HD3).k1 (uh HD3).k2 (by omega) rfl rfl rfl underlying68 rfl (by kernel_rfl) underlying30 rfl (by kernel_rfl)) rfl ?_
  rw[uh HX]
  unfold bgA
  rw[yf (uh HC)]
  exact⟨_,_,_,rfl,rfl,zf8 _ _,.inl rfl,zah (zah (uh HB3) (by omega) [_,_,_,_,_] 0) (by omega) [_,_,_,_] 0⟩
 ·have b02:=zaa (uh HA).bel b2
  have HE:=zab (zmN w2)
  have HX:=zab ((uh HRF).2 u hap)
  have HD2:=zab ((uh HDB).next b2)
  have HB2:=zab b02
  have HU:=zab hu
  have HT:=zab htr
  clear HAP b2 b02 hap hu htr HDB c3 HRF
  go_wp2_with fail
  refine (uh HE).mono ?_
  rintro e w3 ⟨rfl,b3⟩
  have b03:=zaa (uh HB2) b3
  have hul:=(uh HU).len
  have HC:Hid (∀ wx,Below w3.heap.size w3 wx->Calls prog 100 #[.iface t2 p2] wx fun e w'=>e = .returned (.string (zac (ct u)))/\Below wx.heap.size wx w'):=fun wx hx=>zcj u (uh HU).ok (uh HU).tw t2 p2 wx _ (((uh HT).next b3).next hx) (fun _ h=>h) (uh HW wx (zaa b03 hx)).1.pow (by omega)
  have HD3:=zab ((uh HD2).next b3)
  have HB3:=zab b03
  have c0:w3.cell? ⟨hb,0,none⟩=some (.int .i64 no):=yF (uh HK w3 b03) 0
  clear HE b3 b03 HB2 HU HT hul HD2
  have hbl:hb < w3.heap.size:=yJ _ _ c0
  have kP:=yG w3 (.cells #[.slice none 0 0,.int .i64 0,.string ⟨#[]⟩,.int .i64 0] 28)
  have HP:Hid (Below w3.heap.size w3 (w3.alloc (.cells #[.slice none 0 0,.int .i64 0,.string ⟨#[]⟩,.int .i64 0] 28)).drew):=zaa (zag w3 _) (yH _ _).drew
  have zP:(w3.alloc (.cells #[.slice none 0 0,.int .i64 0,.string ⟨#[]⟩,.int .i64 0] 28)).drew.heap.size=w3.heap.size+1:=by show (w3.alloc _).heap.size=_; simp
  have HKP:Hid ((w3.alloc (.cells #[.slice none 0 0,.int .i64 0,.string ⟨#[]⟩,.int .i64 0] 28)).drew.heap[w3.heap.size]?=some (.cells #[.slice none 0 0,.int .i64 0,.string ⟨#[]⟩,.int .i64 0] 28 (0,0))):=kP
  have HZP:=zab zP
  clear kP zP
  have HC1:=zab (uh HC _ (uh HP))
  have bd:Below w3.heap.size w3 w3.drew:=(yH _ _).drew
  have HC2:=zab (uh HC w3.drew bd)
  clear HC bd
  have e0':(w3.alloc (.cells #[.slice none 0 0,.int .i64 0,.string ⟨#[]⟩,.int .i64 0] 28)).drew.cell? ⟨hb,0,none⟩=some (.int .i64 no):=((uh HP).cell (p:=⟨hb,0,none⟩) hbl).trans c0
  go_wp2_with fail
  go_region_law (first
   | (go_simp; refine (uh HC1).mono ?_; rintro e w4 ⟨rfl, b4⟩
      have b4':=zaa (uh HP) b4
      have e0:=(b4'.cell (p:=⟨hb,0,none⟩) hbl).trans c0
      have kM:=(b4.block w3.heap.size (by have:=uh HZP; omega)).trans (uh HKP)
      obtain⟨m0,m1,m2,m3⟩:=Cl4.of kM
      have fM:=yI kM)
   | (go_simp; refine (uh HC2).mono ?_; rintro e w4 ⟨rfl, b4⟩
      have b4':Below w3.heap.size w3 w4:=⟨b4.os,b4.tape,b4.output,b4.size,b4.block⟩
      have e0:=(b4'.cell (p:=⟨hb,0,none⟩) hbl).trans c0
      have e1:(w4.alloc (.cells #[.slice none 0 0,.int .i64 0,.string ⟨#[]⟩,.int .i64 0] 28)).cell? ⟨hb,0,none⟩=some (.int .i64 no):=((zag w4 _).cell (p:=⟨hb,0,none⟩) (yE hbl b4'.size)).trans e0
      have kN:=trivial))
  all_goals first
  | (have HN := zab kN
     have hwM:w.heap.size+1 < w3.heap.size:=(yB.1 (uh HD3).k2).1
     have hN:=zag w4 (.cells #[.slice a ms.length cap,.int .i64 no,.string (zac (ct u)),.int .i64 tr] 28)
     have HD4:=zab (((uh HD3).next b4').next hN)
     have HB4:=zab (zaa (zaa (uh HB3) b4') hN)
     obtain⟨c0,c1,c2,c3,c4⟩:=Cl5.of (uh HD4).k1
     obtain⟨d0,d1,d2,d3⟩:=Cl4.of (uh HD4).k2
     have f1:=yI (uh HD4).k1
     have f2:=yI (uh HD4).k2
     have HO:=zab (uh HW _ (uh HB4)).2.2
     clear HC1 HC2 b4 b4' e0 e0' e1 HD3 HB3 HP HKP HZP hN kN HN
     go_wp2
     refine bodyPost_ret (zcK rfl _ [_,_,_,_,_] [_,_,_,_] rfl rfl (uh HD4).k1 (uh HD4).k2 (by omega) rfl rfl rfl underlying68 rfl (by kernel_rfl) underlying30 rfl (by kernel_rfl)) rfl ?_
     rw[uh HX]
     unfold bgA
     rw[yg rfl]
     have hl:∀ g,w.heap.size<=g->∀ b,(Value.slice a ms.length cap).ownBlock=some b->b < g:=fun g hg b hb=>by have:=uh HLT b hb; omega
     exact⟨_,_,_,rfl,rfl,zfo (zfo (uh HO) (hl _ (by omega)) [_,_,_,_,_] 0) (hl _ (by omega)) [_,_,_,_] 0,.inr ⟨_,_,rfl⟩,zah (zah (uh HB4) (by omega) [_,_,_,_,_] 0) (by omega) [_,_,_,_] 0⟩)
  | (have hwM : w.heap.size + 1 < w3.heap.size := (yB.1 (uh HD3).k2).1
     have HB4:=zab (zaa (uh HB3) b4')
     have d4:=(uh HD3).next b4'
     have HD4:Hid (DB w.heap.size (putN w4 w3.heap.size 0 [.slice a ms.length cap,.int .i64 no,.string (zac (ct u)),.int .i64 tr])):=⟨(za9 (by omega) _ _).trans d4.k1,(za9 (by omega) _ _).trans d4.k2⟩
     obtain⟨c0,c1,c2,c3,c4⟩:=Cl5.of d4.k1
     obtain⟨d0,d1,d2,d3⟩:=Cl4.of d4.k2
     have f1:=yI d4.k1
     have f2:=yI d4.k2
     have HO:=zab (uh HW _ (uh HB4)).2.2
     clear HC1 HC2 b4 b4' e0 e0' HD3 HB3 kM d4 HP HKP HZP
     go_wp2
     refine bodyPost_ret (zcK rfl _ [_,_,_,_,_] [_,_,_,_] rfl rfl (uh HD4).k1 (uh HD4).k2 (by omega) rfl rfl rfl underlying68 rfl (by kernel_rfl) underlying30 rfl (by kernel_rfl)) rfl ?_
     rw[uh HX]
     unfold bgA
     rw[yg rfl]
     have hl:∀ g,w.heap.size<=g->∀ b,(Value.slice a ms.length cap).ownBlock=some b->b < g:=fun g hg b hb=>by have:=uh HLT b hb; omega
     exact⟨_,_,_,rfl,rfl,zfo (zfo (zfo (uh HO) (hl _ (by omega)) [_,_,_,_] 0) (hl _ (by omega)) [_,_,_,_,_] 0) (hl _ (by omega)) [_,_,_,_] 0,.inr ⟨_,_,rfl⟩,zah (zah (zah (uh HB4) (by omega) [_,_,_,_] 0) (by omega) [_,_,_,_,_] 0) (by omega) [_,_,_,_] 0⟩)
theorem zpc (hb:Nat) (m:Ver) (q nx:Value) (t:TypeId) (p:Value) (jv:JV) (s:ByteArray) (w:World) (hk:w.heap[hb]?=some (.cells #[.int .i64 m.no,.string m.doc,q,.iface t p,nx] 109 (0,0)))
  (hr:zaZ m.doc = .inr jv) (hrep:TrA w jv (.iface t p)) (hz:s.size<=1048576) (hw:RdW w) (hg:znY w) :
  Calls prog 27 #[.pointer (some ⟨hb,0,none⟩),.string s] w (DfP (bgD m (dcR s)) 0 w.heap.size w):=by
 have hlt:=(yB.1 hk).1
 have hA:=zsd w (.cells #[.slice none 0 0,.int .i64 0,.string ⟨#[]⟩,.int .i64 0,.nilIface] 68) (.cells #[.int .i64 0,.int .i64 0,.int .i64 0,.int .i64 0] 30)
 have HDB:Hid (DB w.heap.size ((w.alloc (.cells #[.slice none 0 0,.int .i64 0,.string ⟨#[]⟩,.int .i64 0,.nilIface] 68)).alloc (.cells #[.int .i64 0,.int .i64 0,.int .i64 0,.int .i64 0] 30))):=⟨hA.k0,hA.k1⟩
 have HD:Hid (Calls _ _ _ ((w.alloc (.cells #[.slice none 0 0,.int .i64 0,.string ⟨#[]⟩,.int .i64 0,.nilIface] 68)).alloc (.cells #[.int .i64 0,.int .i64 0,.int .i64 0,.int .i64 0] 30)) _):=zhz s _ (hw.up hA.bel) hz
 have HTR:Hid (∀ (wx:World) (v:Value) (B:Nat),Below w.heap.size w wx->OPr wx B v (dcR s).1->Calls prog 57 #[.pointer (some ⟨hb,0,none⟩),v,.int .i64 0] wx (DfP (bgA m.no (apR m.doc (dcR s).1) (dcR s).1) 0 B wx)):=fun wx v B hx ho=>ztp hb m.no m.doc q nx t p jv v _ B 0 wx ((hx.block hb hlt).trans hk) hr (hrep.next hx) ho (zud s) (hw.up hx) (hg.up hx)
 have HA:=zab hA
 generalize hdc:dcR s=D at *
 obtain⟨ops,dc,di⟩:=D
 simp only at HD HTR
 clear hdc hk hr hrep hz hw hg hlt hA
 go_enter func27,ntmps27
 go_wp2_with fail
 generalize (w.alloc _).alloc _=wA at *
 have hsz:=(uh HA).size
 refine (uh HD).mono ?_
 rintro e w2 ⟨v2,rfl,o2,b2⟩
 obtain⟨a2,n2,rfl⟩:=zbX o2
 have b02:=zaa (uh HA).bel b2
 have HD2:=zab ((uh HDB).next b2)
 have HB2:=zab b02
 have HT2:=zab (uh HTR w2 _ _ b02 o2)
 clear HD b2 b02 o2 HDB HTR
 by_cases hdc:dc=0
 ·subst hdc
  have HY:Hid (bgD m (ops,0,di)=bgA m.no (apR m.doc ops) ops):=by show _=_; unfold bgD; rw[yg rfl]
  generalize bgA m.no (apR m.doc ops) ops=b at *
  go_wp2_with fail
  refine (uh HT2).mono ?_
  rintro e w3 ⟨v3,tr',rt,rfl,htr,o3,hrt,b3⟩
  have htr0:tr'=0:=by rw[htr]; split <;> rfl
  subst htr0
  obtain⟨a3,n3,rfl⟩:=zbX o3
  have HD3:=zab ((uh HD2).next b3)
  have HB3:=zab (zaa (uh HB2) b3)
  obtain⟨c0,c1,c2,c3,c4⟩:=Cl5.of (uh HD3).k1
  obtain⟨d0,d1,d2,d3⟩:=Cl4.of (uh HD3).k2
  have f1:=yI (uh HD3).k1
  have f2:=yI (uh HD3).k2
  have HO3:=zab o3
  have HTR3:=zab htr
  clear HT2 b3 o3 htr HB2 HD2
  rcases hrt with rfl | ⟨t3,p3,rfl⟩
  all_goals (
   go_wp2
   refine bodyPost_ret (zcK rfl _ [_,_,_,_,_] [_,_,_,_] rfl rfl (uh HD3).k1 (uh HD3).k2 (by omega) rfl rfl rfl underlying68 rfl (by kernel_rfl) underlying30 rfl (by kernel_rfl)) rfl ?_
   rw[uh HY]
   refine⟨_,_,_,rfl,uh HTR3,zaC (zd9 (zd9 (uh HO3) (by omega) [_,_,_,_,_] 0) (by omega) [_,_,_,_] 0) (by omega),?_,zah (zah (uh HB3) (by omega) [_,_,_,_,_] 0) (by omega) [_,_,_,_] 0⟩
   first | exact .inl rfl | exact .inr ⟨_,_,rfl⟩)
 ·have HY:Hid (bgD m (ops,dc,di)=⟨[],0,⟨#[]⟩,6,dc,di⟩):=by show _=_; unfold bgD; rw[yf hdc]
  have hdcI:(dc != 0)=true:=by simpa using hdc
  obtain⟨c0,c1,c2,c3,c4⟩:=Cl5.of (uh HD2).k1
  obtain⟨d0,d1,d2,d3⟩:=Cl4.of (uh HD2).k2
  have f1:=yI (uh HD2).k1
  have f2:=yI (uh HD2).k2
  clear hdc HT2
  go_wp2
  refine bodyPost_ret (zcK rfl _ [_,_,_,_,_] [_,_,_,_] rfl rfl (uh HD2).k1 (uh HD2).k2 (by omega) rfl rfl rfl underlying68 rfl (by kernel_rfl) underlying30 rfl (by kernel_rfl)) rfl ?_
  rw[uh HY]
  exact⟨_,_,_,rfl,rfl,zf8 _ _,.inl rfl,zah (zah (uh HB2) (by omega) [_,_,_,_,_] 0) (by omega) [_,_,_,_] 0⟩
theorem zis (p:Value) (vs:List Ver) (bl:List Nat) (s:ByteArray) (w:World) (h:zbt zeS w p vs bl) (hs:za2 vs<=1048576) (hz:s.size<=1048576) (hw:RdW w) (hg:znY w) :
  Calls prog 8 #[.agg #[p],.string s] w (BgP (bgR vs s) w):=by
 obtain⟨xa,xc,rfl,-,-⟩:=h.form
 have hA:=zwj w (.cells #[.slice xa vs.length xc] 35) (.cells #[.slice none 0 0,.int .i64 0,.string ⟨#[]⟩,.int .i64 0] 28) (.cells #[.int .i64 0,.int .i64 0,.int .i64 0,.int .i64 0] 30)
 have HS:Hid (Calls _ _ _ (((w.alloc (.cells #[.slice xa vs.length xc] 35)).alloc (.cells #[.slice none 0 0,.int .i64 0,.string ⟨#[]⟩,.int .i64 0] 28)).alloc (.cells #[.int .i64 0,.int .i64 0,.int .i64 0,.int .i64 0] 30)) _):=zmD _ vs bl _ (h.below hA.bel) hs (hw.up hA.bel)
 have HA:=zab hA
 have HW:Hid (∀ wx,Below w.heap.size w wx->RdW wx/\znY wx):=fun wx hx=>⟨hw.up hx,hg.up hx⟩
 have hlen:=zue vs s
 have HZ:=zab hz
 clear h hA hs hw hg hz
 go_enter func8,ntmps8
 go_wp2_with fail
 generalize ((w.alloc _).alloc _).alloc _=wA at *
 have hsz:=(uh HA).size
 have hrA:RB (w.heap.size+1) wA:=⟨(uh HA).k1,(uh HA).k2⟩
 refine (uh HS).mono ?_
 rintro e w1 ⟨b1,hno,hyes⟩
 have HR1:=zab (hrA.next b1)
 have b01:=zaa (uh HA).bel b1
 have HB1:=zab b01
 have hs1:=b1.size
 clear HS hrA b1 HA
 cases hok:zaS vs with
 | false=>
  obtain rfl:=hno hok
  have HX:=zab (zuc (s:=s) hok)
  obtain⟨c0,c1,c2,c3⟩:=Cl4.of (uh HR1).k1
  obtain⟨d0,d1,d2,d3⟩:=Cl4.of (uh HR1).k2
  have f1:=yI (uh HR1).k1
  have f2:=yI (uh HR1).k2
  clear hok hno hyes b01 hlen
  go_wp2
  refine bodyPost_ret (zcK rfl _ [_,_,_,_] [_,_,_,_] rfl rfl (uh HR1).k1 (uh HR1).k2 (by omega) rfl rfl rfl underlying28 rfl (by kernel_rfl) underlying30 rfl (by kernel_rfl)) rfl ?_
  rw[uh HX]
  exact⟨_,rfl,zf8 _ _,zah (zah (uh HB1) (by omega) [_,_,_,_] 0) (by omega) [_,_,_,_] 0⟩
 | true=>
  obtain⟨hv,rfl,hch⟩:=hyes hok
  obtain⟨k,hk,r,-,-,hrv⟩:=ziQ hok
  rw[hrv,zdD] at hch
  obtain⟨hb,q,t,p,nx,ib,jv,rfl,hbl,hkb,-,hrr,-,hrep,-⟩:=hch
  have HX:=zab (zqP (s:=s) hok hrv)
  have HBG:=zab (zpc hb vs[k] q nx t p jv s w1 hkb hrr hrep (uh HZ) (uh HW w1 b01).1 (uh HW w1 b01).2)
  rw[uh HX] at hlen
  generalize bgD vs[k] (dcR s)=b at *
  clear hno hyes hok hrv hbl hkb hrr hrep b01
  obtain⟨ops,base,doc,kind,code,pos⟩:=b
  go_wp2_with fail
  refine (uh HBG).mono ?_
  rintro e w2 ⟨v2,tr',rt,rfl,htr,o2,hrt,b2⟩
  have htr0:tr'=0:=by rw[htr]; split <;> rfl
  subst htr0
  obtain⟨a2,n2,rfl⟩:=zbX o2
  simp only at o2 hlen
  have HR2:=zab ((uh HR1).next b2)
  have HB2:=zab (zaa (uh HB1) b2)
  have HRT:=zab hrt
  have HO2:=zab o2
  have hN:=zsd w2 (.cells #[.slice a2 ops.length n2,.int .i64 base,.string doc,.int .i64 0,rt] 68) (.cells #[.int .i64 kind,.int .i64 code,.int .i64 pos,.int .i64 0] 30)
  have bd:Below ((w2.alloc (.cells #[.slice a2 ops.length n2,.int .i64 base,.string doc,.int .i64 0,rt] 68)).alloc (.cells #[.int .i64 kind,.int .i64 code,.int .i64 pos,.int .i64 0] 30)).heap.size _ ((w2.alloc (.cells #[.slice a2 ops.length n2,.int .i64 base,.string doc,.int .i64 0,rt] 68)).alloc (.cells #[.int .i64 kind,.int .i64 code,.int .i64 pos,.int .i64 0] 30)).drew:=(yH _ _).drew
  have b2d:=zaa hN.bel bd
  have HTL:=zab (zir _ ops _ base 0 doc rt _ (zaj o2 b2d) (by omega) hrt)
  have HR3:=zab ((uh HR2).next b2d)
  have HB3:=zab (zaa (uh HB2) b2d)
  obtain⟨m0,m1,m2,m3⟩:=Cl4.of hN.k1
  obtain⟨l0,l1,l2,l3,l4⟩:=Cl5.of hN.k0
  have HKV:=zab ((bd.block _ (by rw[hN.size]; omega)).trans hN.k1)
  have hMa:¬ w2.heap.size=w.heap.size:=by have:=b2.size; omega
  have hMb:¬ w.heap.size=w2.heap.size:=by have:=b2.size; omega
  have hMc:¬ w2.heap.size=w.heap.size+1:=by have:=b2.size; omega
  have hMd:¬ w.heap.size+1=w2.heap.size:=by have:=b2.size; omega
  clear HBG htr b2 o2 HR1 HB1 hN bd b2d HO2 HR2 HB2
  rcases hrt with rfl | ⟨t2,p2,rfl⟩
  all_goals (
   go_wp2_with fail
   generalize (w2.alloc _).alloc _=wM at *
   generalize w2.heap.size=M at *
   go_region_law (first
    | (go_simp; refine (uh HTL).mono ?_
       rintro e w3 ⟨v3,rfl,o3,b3⟩
       obtain⟨a3,n3,rfl⟩:=zbX o3
       have hr3:=(uh HR3).next b3
       obtain⟨c0,c1,c2,c3⟩:=Cl4.of hr3.k1
       obtain⟨d0,d1,d2,d3⟩:=Cl4.of hr3.k2
       have f1:=yI hr3.k1
       have f2:=yI hr3.k2
       obtain⟨q0,q1,q2,q3⟩:=Cl4.of ((b3.block (M+1) (yB.1 (uh HKV)).1).trans (uh HKV))))
   all_goals (
    have HR4:=zab hr3
    have HO4:=zab o3
    have HB4:=zab (zaa (uh HB3) b3)
    have hwM:w.heap.size+1+1 < wM.drew.heap.size:=(yB.1 (uh HR3).k2).1
    clear hr3 o3 b3 HTL HKV
    go_wp2
    refine bodyPost_ret (zcK rfl _ [_,_,_,_] [_,_,_,_] rfl rfl (uh HR4).k1 (uh HR4).k2 (by omega) rfl rfl rfl underlying28 rfl (by kernel_rfl) underlying30 rfl (by kernel_rfl)) rfl ?_
    rw[uh HX]
    exact⟨_,rfl,zaC (zd9 (zd9 (uh HO4) (by omega) [_,_,_,_] 0) (by omega) [_,_,_,_] 0) (by omega),zah (zah (uh HB4) (by omega) [_,_,_,_] 0) (by omega) [_,_,_,_] 0⟩))
structure SX (g2 g6 g7 g8 g9 g10:Nat) (o2 o6 o7 o8 o9 o10:Obj) (w:World) : Prop where
 e2:w.heap[g2]?=some o2
 e6:w.heap[g6]?=some o6
 e7:w.heap[g7]?=some o7
 e8:w.heap[g8]?=some o8
 e9:w.heap[g9]?=some o9
 e10:w.heap[g10]?=some o10
theorem SX.below {g2 g6 g7 g8 g9 g10:Nat} {o2 o6 o7 o8 o9 o10:Obj} {w w':World} (h:SX g2 g6 g7 g8 g9 g10 o2 o6 o7 o8 o9 o10 w) (hb:Below w.heap.size w w') : SX g2 g6 g7 g8 g9 g10 o2 o6 o7 o8 o9 o10 w':=by
 have k:∀ {g:Nat} {o:Obj},w.heap[g]?=some o->w'.heap[g]?=some o:=fun e=>(hb.block _ (yB.1 e).1).trans e
 exact⟨k h.e2,k h.e6,k h.e7,k h.e8,k h.e9,k h.e10⟩
theorem SX.fr {g2 g6 g7 g8 g9 g10:Nat} {o2 o6 o7 o8 o9 o10:Obj} {w w':World} {bl:List Nat} (h:SX g2 g6 g7 g8 g9 g10 o2 o6 o7 o8 o9 o10 w) (hf:Fr bl w w') (hn:∀ g∈[g2,g6,g7,g8,g9,g10],g ∉ bl) : SX g2 g6 g7 g8 g9 g10 o2 o6 o7 o8 o9 o10 w':=by
 have k:∀ {g:Nat} {o:Obj},g ∉ bl->w.heap[g]?=some o->w'.heap[g]?=some o:=fun hg e=>(hf.block _ (yB.1 e).1 hg).trans e
 simp only[List.mem_cons,List.not_mem_nil,or_false,forall_eq_or_imp,forall_eq] at hn
 exact⟨k hn.1 h.e2,k hn.2.1 h.e6,k hn.2.2.1 h.e7,k hn.2.2.2.1 h.e8,k hn.2.2.2.2.1 h.e9,k hn.2.2.2.2.2 h.e10⟩
theorem zpd {ms:List Ver} (h:za2 ms<=1048576) : zdj zbj ms<=1000000000:=by
 have:zdj zbj ms<=2*za2 ms:=by
  clear h
  unfold zdj za2
  induction ms with
  | nil=>simp
  | cons m r ih=>
   have:zbj m<=zbY m+2:=by unfold zbj zbY zih; omega
   simp only[yi,yL,yn]; omega
 omega
theorem zmP (v:Value) (ms:List Ver) (s:ByteArray) (w:World) (hr:zra w v ms) (hw:RdW w) (hg:znY w) :
  Calls prog 3 #[v,.string s] w fun e w'=>e = .returned (.bool true)/\Below w.heap.size w w':=by
 obtain⟨p,rfl,hr1⟩:=hr
 have hA:=zag w (Obj.cells #[p] 24)
 have kA:=yG w (Obj.cells #[p] 24)
 have hAs:(w.alloc (Obj.cells #[p] 24)).heap.size=w.heap.size+1:=by simp
 have HS:=zab (zpl (.agg #[p]) ms _ (zra.below ⟨p,rfl,hr1⟩ hA))
 have HA:=zab hA
 by_cases hz:s.size<=1048576
 ·have hzI:¬ (1048576:Int) < (s.size:Int):=by omega
  by_cases hsz:za2 ms<=1048576
  ·rw[zp1 hsz] at HS
   have hle:1048576 - za2 ms<=1048576:=by omega
   generalize 1048576 - za2 ms=L at *
   have HT:Hid (∀ wx,Below w.heap.size w wx->Calls prog 7 #[.agg #[p]] wx fun e w'=>∃ p bl,e = .returned (.agg #[p])/\zbt zeS w' p ms bl/\Fsh wx.heap.size bl/\Below wx.heap.size wx w'):=fun wx hx=>zpm _ ms wx (zra.below ⟨p,rfl,hr1⟩ hx) hsz
   have HSB:Hid (∀ wx p bl,zbt zeS wx p ms bl->Calls prog 6 #[.agg #[p],.string s] wx (BgP (bgR ms s) wx)):=fun wx p bl h=>zim p ms bl s wx h hsz hz
   have HIB:Hid (∀ wx p bl,Below w.heap.size w wx->zbt zeS wx p ms bl->Calls prog 8 #[.agg #[p],.string s] wx (BgP (bgR ms s) wx)):=fun wx p bl hx h=>zis p ms bl s wx h hsz hz (hw.up hx) (hg.up hx)
   have hlen:=zue ms s
   generalize bgR ms s=b at *
   obtain⟨ops,base,doc,kind,code,pos⟩:=b
   simp only at hlen
   have HSZ:=zab hsz
   clear hw hg hr1 hsz hz hA
   go_enter func3,ntmps3
   go_wp2_with fail
   generalize w.alloc _=wA at *
   refine (uh HS).mono ?_
   rintro e w1 ⟨rfl,b1⟩
   have B1:=zaa (uh HA) b1
   have hs1:=b1.size
   have k1:=(b1.block w.heap.size (by omega)).trans kA
   have c1:w1.cell? ⟨w.heap.size,0,none⟩=some p:=yF k1 0
   have HT1:=zab (uh HT w1 B1)
   have HK1:=zab k1
   have HB1:=zab B1
   clear HS b1 B1 k1 kA
   go_wp2_with fail
   refine (uh HT1).mono ?_
   rintro e w2 ⟨p2,bl2,rfl,o2,-,b2⟩
   have HE:=zab (uh HSB w2 p2 bl2 o2)
   have hs2:=b2.size
   have HK2:=zab ((b2.block w.heap.size (by omega)).trans (uh HK1))
   have HB2:=zab (zaa (uh HB1) b2)
   clear HT1 o2 b2 HB1 HK1 c1 HSB
   go_wp2_with fail
   refine (uh HE).mono ?_
   rintro e w3 ⟨v0,rfl,o3,b3⟩
   obtain⟨a0,n0,rfl⟩:=zbX o3
   simp only at o3
   have hN:=zsd w3 (.cells #[.slice a0 ops.length n0,.int .i64 base,.string doc,.int .i64 0] 28) (.cells #[.int .i64 kind,.int .i64 code,.int .i64 pos,.int .i64 0] 30)
   have hs3:=b3.size
   have B4:=zaa (zaa (uh HB2) b3) hN.bel
   have k4:=(hN.bel.block w.heap.size (by omega)).trans ((b3.block w.heap.size (by omega)).trans (uh HK2))
   have c4:=yF k4 0
   have HT4:=zab (uh HT _ B4)
   have HO4:Hid (OPr _ _ _ ops):=zaj o3 hN.bel
   have HOL:Hid (∀ g,(Value.slice a0 ops.length n0).ownBlock=some g->g < w3.heap.size):=fun g hg=>(o3.lt g hg).2
   have HB4:=zab B4
   have HK4:=zab k4
   have HN:=zab hN
   clear HE b3 o3 hN B4 k4 HB2 HK2
   go_wp2_with fail
   generalize (w3.alloc _).alloc _=w4 at *
   refine (uh HT4).mono ?_
   rintro e w5 ⟨px,blx,rfl,o5,f5,b5⟩
   obtain⟨xa,xc,rfl,-,-⟩:=o5.form
   have hN5:=zag w5 (.cells #[.slice xa ms.length xc] 35)
   have kN5:=yG w5 (.cells #[.slice xa ms.length xc] 35)
   have zN5:(w5.alloc (.cells #[.slice xa ms.length xc] 35)).heap.size=w5.heap.size+1:=by simp
   have b46:=zaa b5 hN5
   have B6:=zaa (uh HB4) b46
   have HI6:=zab (uh HIB _ _ blx B6 (o5.below hN5))
   have HX6:=zab (o5.below hN5)
   have HFX:=zab f5
   have hlx:=o5.lt
   have HLX:=zab hlx
   have HO6:Hid (OPr _ _ _ ops):=zaj (uh HO4) b46
   have HB6:=zab B6
   have h45:=b5.size
   have hz4:=(uh HN).size
   have HK6:=zab ((b46.block w.heap.size (by omega)).trans (uh HK4))
   have HP6:=zab ((b46.block w3.heap.size (by omega)).trans (uh HN).k0)
   have HV6:=zab ((b46.block (w3.heap.size+1) (by omega)).trans (uh HN).k1)
   have HN6:=zab kN5
   have HZ6:=zab zN5
   clear HT4 o5 f5 b5 hN5 kN5 zN5 b46 B6 HO4 HB4 HK4 HN c4 hlx
   go_wp2_with fail
   generalize w5.alloc _=w6 at *
   refine (uh HI6).mono ?_
   rintro e w7 ⟨v1,rfl,o7,b7⟩
   obtain⟨a1,n1,rfl⟩:=zbX o7
   simp only at o7
   have hN:=zsd w7 (.cells #[.slice a1 ops.length n1,.int .i64 base,.string doc,.int .i64 0] 28) (.cells #[.int .i64 kind,.int .i64 code,.int .i64 pos,.int .i64 0] 30)
   have b68:=zaa b7 hN.bel
   have hz6:=uh HZ6
   have h67:=b7.size
   have h8:=hN.size
   have HSX:Hid (SX w.heap.size w3.heap.size (w3.heap.size+1) w5.heap.size w7.heap.size (w7.heap.size+1) _ _ _ _ _ _ ((w7.alloc (.cells #[.slice a1 ops.length n1,.int .i64 base,.string doc,.int .i64 0] 28)).alloc (.cells #[.int .i64 kind,.int .i64 code,.int .i64 pos,.int .i64 0] 30))):=
    ⟨(b68.block _ (by omega)).trans (uh HK6),(b68.block _ (by omega)).trans (uh HP6),(b68.block _ (by omega)).trans (uh HV6),(b68.block _ (by omega)).trans (uh HN6),hN.k0,hN.k1⟩
   have HX8:=zab ((uh HX6).below b68)
   have HO8:Hid (OPr _ _ _ ops):=zaj (uh HO6) b68
   have HG8:Hid (OPr _ _ _ ops):=zaj o7 hN.bel
   have HGL:Hid (∀ g,(Value.slice a1 ops.length n1).ownBlock=some g->w6.heap.size<=g/\g < w7.heap.size):=fun g hg=>o7.lt g hg
   have HB8:=zab (zaa (uh HB6) b68)
   have HZ8:=zab h8
   obtain⟨x0,x1,x2,x3⟩:=Cl4.of (uh HSX).e6
   obtain⟨y0,y1,y2,y3⟩:=Cl4.of (uh HSX).e9
   have HQ8:=zab (zga _ _ base 0 doc ops _ _ _ (uh HG8).orow.1 (uh HO8).orow.1)
   have hB8:w.heap.size < w3.heap.size/\w3.heap.size+1 < w4.heap.size/\w4.heap.size<=w5.heap.size/\w5.heap.size+1=w6.heap.size/\w6.heap.size<=w7.heap.size:=⟨by omega,by omega,by omega,by omega,by omega⟩
   have HSZS:=zab hB8
   have HBX:Hid (∀ b∈blx,w4.heap.size<=b/\b < w5.heap.size):=fun b hb=>⟨(uh HFX).2 b hb,uh HLX b hb⟩
   clear HI6 b7 hN o7 b68 HX6 HO6 HB6 HK6 HP6 HV6 HN6 hB8 hs1 hs2 hs3 h45 hz4 hz6 h67 h8 HLX HZ6 HZ8 hAs
   generalize w3.heap.size=g6 at *
   generalize w4.heap.size=z4 at *
   generalize w5.heap.size=g8 at *
   generalize w6.heap.size=z6 at *
   go_wp2_with fail
   generalize (w7.alloc _).alloc _=w8 at *
   generalize w7.heap.size=g9 at *
   refine (uh HQ8).mono ?_
   rintro e w9 ⟨rfl,b9⟩
   have HSX9:=zab ((uh HSX).below b9)
   obtain⟨q0,q1,q2,q3⟩:=Cl4.of (uh HSX9).e10
   obtain⟨r0,r1,r2,r3⟩:=Cl4.of (uh HSX9).e7
   have HX9:=zab ((uh HX8).below b9)
   have HO9:Hid (OPr _ _ _ ops):=zaj (uh HO8) b9
   have HG9:Hid (OPr _ _ _ ops):=zaj (uh HG8) b9
   have HB9:=zab (zaa (uh HB8) b9)
   have HQ9:=zab (zgb kind code pos 0 w9)
   clear HQ8 b9 HSX HX8 HO8 HG8 HB8 x0 x1 x2 x3 y0 y1 y2 y3
   go_wp2_with fail
   refine (uh HQ9).mono ?_
   rintro e w10 ⟨rfl,b10⟩
   have HSX10:=zab ((uh HSX9).below b10)
   have t8:w10.cell? ⟨g8,0,none⟩=some (.slice xa ms.length xc):=yF (uh HSX10).e8 0
   have t2:w10.cell? ⟨w.heap.size,0,none⟩=some p:=yF (uh HSX10).e2 0
   have HX10:=zab ((uh HX9).below b10)
   have HO10:Hid (OPr _ _ _ ops):=zaj (uh HO9) b10
   have HG10:Hid (OPr _ _ _ ops):=zaj (uh HG9) b10
   have b010:=zaa (uh HB9) b10
   have HB10:=zab b010
   have hdr:Below w10.heap.size w10 w10.drew:=(yH _ _).drew
   have HT10:=zab (uh HT w10.drew (zaa b010 hdr))
   clear HQ9 b10 b010 hdr HSX9 HX9 HO9 HG9 HB9 q0 q1 q2 q3 r0 r1 r2 r3
   go_wp2_with fail
   go_region_law (first
    | (go_simp; refine (uh HQ).mono ?_; rintro e w12 ⟨rfl,b12⟩)
    | (go_simp; refine (uh HT10).mono ?_; rintro e w11 ⟨v11, bl11, rfl, o11, -, b11⟩
       have b11':Below w10.heap.size w10 w11:=⟨b11.os,b11.tape,b11.output,b11.size,b11.block⟩
       have d11:w11.cell? ⟨g8,0,none⟩=some (.slice xa ms.length xc):=yF ((uh HSX10).below b11').e8 0
       have HQ:=zab (zpi (.agg #[.slice xa ms.length xc]) (.agg #[v11]) ms blx bl11 w11 ⟨_,rfl,(uh HX10).below b11'⟩ ⟨_,rfl,o11⟩)))
   all_goals (
    have b1012:=zaa b11' b12
    have HSX12:=zab ((uh HSX10).below b1012)
    have s8:w12.cell? ⟨g8,0,none⟩=some (.slice xa ms.length xc):=yF (uh HSX12).e8 0
    have hcv:=zpd (uh HSZ)
    have HM:=zab (zlb (.agg #[.slice xa ms.length xc]) ms blx w12 ⟨_,rfl,(uh HX10).below b1012⟩ (uh HFX).1 (by have:=uh HSZ; omega) 1 (by omega))
    have HO12:Hid (OPr _ _ _ ops):=zaj (uh HO10) b1012
    have HG12:Hid (OPr _ _ _ ops):=zaj (uh HG10) b1012
    have HB12:=zab (zaa (uh HB10) b1012)
    clear HQ HT10 o11 b11 b11' b12 d11 b1012 t8 t2 HX10 HO10 HG10 HB10 HSX10 hcv
    generalize (1+zdj zbj ms:Nat)=K at *
    go_wp2_with fail
    refine (uh HM).mono ?_
    rintro e w13 ⟨rfl,-,f13⟩
    have hS:=uh HSZS
    have HSX13:=zab ((uh HSX12).fr f13 (by
     simp only[List.mem_cons,List.not_mem_nil,or_false,forall_eq_or_imp,forall_eq]
     refine⟨?_,?_,?_,?_,?_,?_⟩ <;> intro hm <;> have:=uh HBX _ hm <;> omega))
    have HO13:Hid (OPr _ _ _ ops):=zcR (uh HO12) (f13.kp (fun b hb=>((uh HO12).lt b (by simpa using hb)).2) (fun b hb hm=>by have:=uh HOL b (by simpa using hb); have:=uh HBX b hm; omega))
    have HG13:Hid (OPr _ _ _ ops):=zcR (uh HG12) (f13.kp (fun b hb=>((uh HG12).lt b (by simpa using hb)).2) (fun b hb hm=>by have:=uh HGL b (by simpa using hb); have:=uh HBX b hm; omega))
    have HB13:=zab ((uh HB12).trans (f13.below (fun b hb=>by have:=uh HBX b hb; omega) (uh HB12).size))
    obtain⟨x0,x1,x2,x3⟩:=Cl4.of (uh HSX13).e6
    obtain⟨y0,y1,y2,y3⟩:=Cl4.of (uh HSX13).e9
    have HQ13:=zab (zga _ _ base 0 doc ops _ _ _ (uh HG13).orow.1 (uh HO13).orow.1)
    clear HM f13 s8 HSX12 HO12 HG12 HB12 hS
    go_wp2_with fail
    refine (uh HQ13).mono ?_
    rintro e w14 ⟨rfl,b14⟩
    have HSX14:=zab ((uh HSX13).below b14)
    obtain⟨q0,q1,q2,q3⟩:=Cl4.of (uh HSX14).e10
    obtain⟨r0,r1,r2,r3⟩:=Cl4.of (uh HSX14).e7
    have HO14:Hid (OPr _ _ _ ops):=zaj (uh HO13) b14
    have HG14:Hid (OPr _ _ _ ops):=zaj (uh HG13) b14
    have HB14:=zab (zaa (uh HB13) b14)
    have HQ14:=zab (zgb kind code pos 0 w14)
    clear HQ13 b14 HSX13 HO13 HG13 HB13 x0 x1 x2 x3 y0 y1 y2 y3
    go_wp2_with fail
    refine (uh HQ14).mono ?_
    rintro e w15 ⟨rfl,b15⟩
    have HSX15:=zab ((uh HSX14).below b15)
    obtain⟨y0,y1,y2,y3⟩:=Cl4.of (uh HSX15).e9
    have HO15:Hid (OPr _ _ _ ops):=zaj (uh HO14) b15
    have g15:OPr _ _ _ ops:=zaj (uh HG14) b15
    have HB15:=zab (zaa (uh HB14) b15)
    obtain⟨row15,fs15⟩:=g15.orow
    have HMP:=zab (zkZ _ base 0 doc ops _ 1 w15 row15 fs15.1 (by omega) (by rw[ziX]; omega))
    rw[ziX] at HMP
    have HL15:=zab fs15.2
    clear HQ14 b15 HSX14 HO14 HG14 HB14 q0 q1 q2 q3 r0 r1 r2 r3 g15 row15 fs15
    go_wp2_with fail
    refine (uh HMP).mono ?_
    rintro e w16 ⟨rfl,row16,f16⟩
    have hS:=uh HSZS
    have HG1:Hid (∀ b∈(Value.slice a1 ops.length n1).ownBlock.toList,z6<=b/\b < g9):=fun b hb=>uh HGL b (by simpa using hb)
    have HSX16:=zab ((uh HSX15).fr f16 (by
     simp only[List.mem_cons,List.not_mem_nil,or_false,forall_eq_or_imp,forall_eq]
     refine⟨?_,?_,?_,?_,?_,?_⟩ <;> intro hm <;> have:=uh HG1 _ hm <;> omega))
    have HO16:Hid (OPr _ _ _ ops):=zcR (uh HO15) (f16.kp (fun b hb=>((uh HO15).lt b (by simpa using hb)).2) (fun b hb hm=>by have:=uh HOL b (by simpa using hb); have:=uh HG1 b hm; omega))
    have HB16:=zab ((uh HB15).trans (f16.below (fun b hb=>by have:=uh HG1 b hb; omega) (uh HB15).size))
    obtain⟨y0,y1,y2,y3⟩:=Cl4.of (uh HSX16).e9
    have HHP:=zab (zgo _ base 0 doc ops _ 1 w16 row16 (by omega) (by rw[ziX]; omega))
    rw[ziX] at HHP
    have HR16:=zab row16
    clear HMP f16 row16 HSX15 HO15 HB15 HL15 hS
    go_wp2_with fail
    refine (uh HHP).mono ?_
    rintro e w17 ⟨rfl,b17⟩
    have HSX17:=zab ((uh HSX16).below b17)
    have t2:w17.cell? ⟨w.heap.size,0,none⟩=some p:=yF (uh HSX17).e2 0
    have HO17:Hid (OPr _ _ _ ops):=zaj (uh HO16) b17
    have HR17:=zab ((uh HR16).below b17)
    have b017:=zaa (uh HB16) b17
    have HB17:=zab b017
    have HT17:=zab (uh HT w17 b017)
    clear HHP b17 b017 HSX16 HO16 HR16 HB16 y0 y1 y2 y3
    go_wp2_with fail
    refine (uh HT17).mono ?_
    rintro e w18 ⟨p18,bl18,rfl,o18,-,b18⟩
    have b018:=zaa (uh HB17) b18
    have HI18:=zab (uh HIB w18 _ bl18 b018 o18)
    have HSX18:=zab ((uh HSX17).below b18)
    have HO18:Hid (OPr _ _ _ ops):=zaj (uh HO17) b18
    have HR18:=zab ((uh HR17).below b18)
    have HB18:=zab b018
    clear HT17 b18 b018 o18 HSX17 HO17 HR17 HB17 t2
    go_wp2_with fail
    refine (uh HI18).mono ?_
    rintro e w19 ⟨v2,rfl,o19,b19⟩
    obtain⟨a2,n2,rfl⟩:=zbX o19
    simp only at o19
    have hN:=zsd w19 (.cells #[.slice a2 ops.length n2,.int .i64 base,.string doc,.int .i64 0] 28) (.cells #[.int .i64 kind,.int .i64 code,.int .i64 pos,.int .i64 0] 30)
    have bN:=zaa b19 hN.bel
    have HSX20:=zab ((uh HSX18).below bN)
    have HR20:=zab ((uh HR18).below bN)
    have HB20:=zab (zaa (uh HB18) bN)
    obtain⟨x0,x1,x2,x3⟩:=Cl4.of (uh HSX20).e6
    have o20:OPr _ _ _ ops:=zaj (uh HO18) bN
    have g20:OPr _ _ _ ops:=zaj o19 hN.bel
    have HQ20:=zab (zga _ _ base 0 doc ops _ _ _ g20.orow.1 o20.orow.1)
    have HKV:=zab hN.k1
    clear HI18 b19 o19 hN bN HSX18 HO18 HR18 HB18 o20 g20
    go_wp2_with fail
    generalize (w19.alloc _).alloc _=w20 at *
    generalize w19.heap.size=g14 at *
    refine (uh HQ20).mono ?_
    rintro e w21 ⟨rfl,b21⟩
    have HSX21:=zab ((uh HSX20).below b21)
    obtain⟨q0,q1,q2,q3⟩:=Cl4.of ((b21.block _ (yB.1 (uh HKV)).1).trans (uh HKV))
    obtain⟨r0,r1,r2,r3⟩:=Cl4.of (uh HSX21).e7
    have HR21:=zab ((uh HR20).below b21)
    have HB21:=zab (zaa (uh HB20) b21)
    have HQ21:=zab (zgb kind code pos 0 w21)
    clear HQ20 b21 HSX20 HR20 HB20 HKV x0 x1 x2 x3
    go_wp2_with fail
    refine (uh HQ21).mono ?_
    rintro e w22 ⟨rfl,b22⟩
    obtain⟨y0,y1,y2,y3⟩:=Cl4.of ((uh HSX21).below b22).e9
    have HHP:=zab (zgo _ base 0 doc ops _ 1 w22 ((uh HR21).below b22) (by omega) (by rw[ziX]; omega))
    rw[ziX] at HHP
    have HB22:=zab (zaa (uh HB21) b22)
    clear HQ21 b22 HSX21 HR21 HB21 q0 q1 q2 q3 r0 r1 r2 r3
    go_wp2_with fail
    refine (uh HHP).mono ?_
    rintro e w23 ⟨rfl,b23⟩
    have HB23:=zab (zaa (uh HB22) b23)
    clear HHP b23 HB22 y0 y1 y2 y3
    go_wp2
    go_ret
    exact⟨rfl,uh HB23⟩)
  ·rw[zkx (by omega)] at HS
   clear kA hA hr1 hw hg
   go_enter func3,ntmps3
   go_wp2_with fail
   generalize w.alloc _=wA at *
   refine (uh HS).mono ?_
   rintro e w1 ⟨rfl,b1⟩
   have HB1:=zab (zaa (uh HA) b1)
   clear HS b1
   go_wp2
   go_ret
   exact⟨rfl,uh HB1⟩
 ·have hzI:(1048576:Int) < (s.size:Int):=by omega
  clear HS kA hA hr1 hw hg
  go_enter func3,ntmps3
  go_wp2
  go_ret
  exact⟨rfl,uh HA⟩
def zun (w:World) : Prop:=(zt1 w/\zhj w.heap.size w/\zjs w.heap.size w)/\znY w
theorem zq8 {W:World} (hL:laidMetH prog Rows.fnExactBeginRow.laid W) : zun W:=by
 have h : laidMet Tryz.prog zjO W ∧ handlesMet Tryz.prog [("errors.errorType", Rows.laid_errors_errorType)] W := hL
 exact⟨⟨zvr h.1,zxb h.1,zxa h.1⟩,zxd h.2⟩
theorem zjQ (v:Value) (ms:List Ver) (s:ByteArray) (w:World) (hr:zra w v ms) (hm:ML w) (h:zun w) :
  Calls prog 3 #[v,.string s] w fun e w'=>e = .returned (.bool true)/\Below w.heap.size w w':=zmP v ms s w hr ⟨zb2.of h.1.1,h.1.2.1,h.1.2.2,hm⟩ h.2
end Go.Proofs.YtekpghcckdjnhaaGreatDoor
