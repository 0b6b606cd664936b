import Derived.Test.YtocnekbedcnmgaaGreatDoorBa35
import Derived.Test.YtocnekbedcnmgaaGreatDoorBa17
import Derived.Test.YtocnekbedcnmgaaGreatDoorBa16
import Derived.Test.YtocnekbedcnmgaaGreatDoorBa9
import Derived.Test.YtocnekbedcnmgaaGreatDoorBa11
import Derived.Test.YtocnekbedcnmgaaGreatDoorBa1
import Derived.Test.YtocnekbedcnmgaaGreatDoorBa36
import Derived.Test.YtocnekbedcnmgaaGreatDoorBa18
import Derived.Test.YtocnekbedcnmgaaGreatDoorBa5
set_option maxRecDepth 100000
set_option maxHeartbeats 8000000
namespace Go.Proofs.YtocnekbedcnmgaaGreatDoor
open Go.RowKit Go.Sort
def RCPost (s:ByteArray) (w:World) (e:Ending) (w':World) : Prop:=
 Below w.heap.size w w'∧(goodT s=false→e = .returned (.tuple #[.nilIface,.bool false])) ∧
 (goodT s=true→∃ (v:JV) (t:TypeId) (p:Value),readR s = .inr v∧strOf (ct v)=s∧e = .returned (.tuple #[.iface t p,.bool true])∧Rep w' (fun k=>w.heap.size≤k∧k < w'.heap.size) v (.iface t p))
theorem goodT_no {s:ByteArray} {v:JV} (h:readR s = .inr v) (hb:goodT s=false) : ((strOf (ct v)).toList == s.toList)=false:=by
 unfold goodT at hb
 rw[h] at hb
 exact hb
theorem readCanon_walk (s:ByteArray) (w:World) (hT:TabsB w.heap.size w) (hE:ErrB w.heap.size w) (hP:PowB w.heap.size w) (hz:s.size≤9223372036854775807) :
  Calls Tryz.prog 158 #[.string s] w (RCPost s w):=by
 have HF:=hide (readText_walk s w hT hE hP hz)
 have HP:=hide hP
 clear hT hE hP
 cases hr:readR s with
 | inl c=>
  obtain⟨c1,c2⟩:=read_code hr
  have hg:goodT s=false:=by unfold goodT; rw[hr]
  rw[hr] at HF
  have t1:((c:Int) == 0)=false:=by simp; omega
  have t2:((c:Int) != 0)=true:=by simp; omega
  have t3:¬ (c:Int)=0:=by omega
  have t4:¬ c=0:=by omega
  have HG:=hide hg
  clear hr hg
  go_enter Tryz.func158,Tryz.ntmps158
  go_wp2_with fail
  refine (uh HF).mono ?_
  rintro e w1 ⟨b1,rfl⟩
  clear HF
  go_wp2
  go_ret2
  exact⟨b1,fun _=>rfl,fun h=>by rw[uh HG] at h; cases h⟩
 | inr v=>
  obtain⟨hs,hd,htw,_,_,_⟩:=read_facts hr
  obtain⟨hok,hcn,hln⟩:=doc_facts hd
  have HR:=hide hr
  rw[hr] at HF
  clear hr hd
  go_enter Tryz.func158,Tryz.ntmps158
  go_wp2_with fail
  refine (uh HF).mono ?_
  rintro e w1 ⟨b1,t,p,rfl,rep⟩
  have HREP:=hide rep
  have HC:=hide (canonText_walk v hok htw t p w1 _ rep (fun k hk=>hk.2) (((uh HP).next b1 (Nat.le_refl _)).more b1.size) (by omega))
  clear HF rep hok htw
  have HB1:=hide b1
  clear b1
  cases hg:goodT s with
  | true=>
   have HG:=hide hg
   obtain⟨v',e1,e2⟩:=goodT_iff.1 hg
   rw[uh HR] at e1
   injection e1 with e1
   subst e1
   rw[e2] at HC
   have HE:=hide e2
   clear hg e2
   go_wp2_with fail
   refine (uh HC).mono ?_
   rintro e w2 ⟨rfl,b2⟩
   have HB2:=hide b2
   clear HC b2
   go_wp2
   go_ret2
   refine⟨below_next (uh HB1) (uh HB2),fun h=>(by rw[uh HG] at h; cases h),fun _=>⟨v,t,p,uh HR,uh HE,rfl,?_⟩⟩
   exact Rep.keep (fun k hk=>(uh HB2).block k hk.2) (fun k hk=>⟨hk.1,Nat.lt_of_lt_of_le hk.2 (uh HB2).size⟩) _ _ (uh HREP)
  | false=>
   have HG:=hide hg
   have tne:=goodT_no (uh HR) hg
   generalize strOf (ct v)=cv at *
   clear hg
   go_wp2_with fail
   refine (uh HC).mono ?_
   rintro e w2 ⟨rfl,b2⟩
   have HB2:=hide b2
   clear HC b2
   go_wp2
   go_ret2
   exact⟨below_next (uh HB1) (uh HB2),fun _=>rfl,fun h=>by rw[uh HG] at h; cases h⟩
end Go.Proofs.YtocnekbedcnmgaaGreatDoor
namespace Go.Proofs.YtocnekbedcnmgaaGreatDoor
open Go.RowKit
def tkOf (s:ByteArray) : List (List UInt8):=(ptoks s.data.toList).getD []
def opB (k:Int) (pv fv vv:Value) : Obj:=.cells #[.string (wordB k),.int .i64 k,.bool (hasF k),.bool (hasV k),.bool (shF k),.bool (shP k),verbF k,pv,fv,vv] 155 (0,0)
structure OpAt (w:World) (B:Nat) (m:POp) (g:Nat) (pv fv vv:Value) (v:JV) : Prop where
 blk:w.heap[g]?=some (opB m.kind pv fv vv)
 ge:B≤g
 path:OT w B pv (tkOf m.path)
 src:OT w B fv (tkOf m.src)
 val:hasV m.kind=true→readR m.val = .inr v∧strOf (ct v)=m.val∧∃ t p,vv = .iface t p∧Rep w (fun k=>B≤k∧k < w.heap.size) v vv
def ROk (m:POp) (w:World) (e:Ending) (w':World) : Prop:=∃ g pv fv vv v,e = .returned (.tuple #[.pointer (some ⟨g,0,none⟩),.bool true])∧OpAt w' w.heap.size m g pv fv vv v∧Below w.heap.size w w'
theorem verbF_fid (k:Int) : ∃ fid,verbF k = .func (Fn.func fid) #[] #[]:=by
 unfold verbF
 repeat' split
 all_goals exact⟨_,rfl⟩
theorem opOk_parts {m:POp} (h:opOk m=true) : 1≤m.kind∧m.kind≤6∧(ptoks m.path.data.toList).isSome=true∧(ptoks m.src.data.toList).isSome=true∧(hasF m.kind=false→m.src.toList=[])∧(hasV m.kind=true→goodT m.val=true)∧(hasV m.kind=false→m.val.toList=[]):=by
 unfold opOk at h
 simp only[Bool.and_eq_true,decide_eq_true_eq] at h
 obtain⟨⟨⟨⟨h1,h2⟩,h3⟩,h4⟩,h5⟩:=h
 refine⟨h1,h2,h3,?_,?_,?_,?_⟩
 ·cases hf:hasF m.kind with
  | true=>rw[hf] at h4; exact h4
  | false=>
   rw[hf] at h4
   have e:m.src.toList=[]:=by simpa using h4
   rw[ByteArray.toList_eq] at e
   rw[e]; rfl
 ·intro hf; rw[hf] at h4; simpa using h4
 ·intro hv; rw[hv] at h5; exact h5
 ·intro hv; rw[hv] at h5; simpa using h5
theorem readOp_good (m:POp) (w:World) (h:opOk m=true) (hw:RdW w) (hz1:m.path.size≤1048576) (hz2:m.src.size≤1048576) (hz3:m.val.size≤1048576) :
  Calls Tryz.prog 123 #[.agg #[.int .i64 m.kind,.string m.path,.string m.src,.string m.val]] w (ROk m w):=by
 obtain⟨k1,k6,hp,hs,hsf,hvg,hvn⟩:=opOk_parts h
 have hA:=alloc_b w (opObj m)
 have kA:=heap_alloc_new w (opObj m)
 have zA:(w.alloc (opObj m)).heap.size=w.heap.size+1:=by simp
 have HFV:=hide (findVerb_yes w.heap.size m (w.alloc (opObj m)) kA k1 k6)
 have HTP:Hid (∀ wx,Below w.heap.size w wx→Calls Tryz.prog 117 #[.string m.path] wx fun e w'=>∃ v,e = .returned (.tuple #[v,.bool true])∧OT w' wx.heap.size v (tkOf m.path)∧Below wx.heap.size wx w'):=fun wx hx=>by
  have:=implToks_walk m.path wx (hw.up hx).ml hz1
  rw[hp] at this
  exact this
 have HTS:Hid (∀ wx,Below w.heap.size w wx→Calls Tryz.prog 117 #[.string m.src] wx fun e w'=>∃ v,e = .returned (.tuple #[v,.bool true])∧OT w' wx.heap.size v (tkOf m.src)∧Below wx.heap.size wx w'):=fun wx hx=>by
  have:=implToks_walk m.src wx (hw.up hx).ml hz2
  rw[hs] at this
  exact this
 have HRC:Hid (∀ wx,Below w.heap.size w wx→hasV m.kind=true→Calls Tryz.prog 158 #[.string m.val] wx fun e w'=>∃ (v:JV) (t:TypeId) (p:Value),readR m.val = .inr v∧strOf (ct v)=m.val∧e = .returned (.tuple #[.iface t p,.bool true])∧Rep w' (fun k=>wx.heap.size≤k∧k < w'.heap.size) v (.iface t p)∧Below wx.heap.size wx w'):=fun wx hx hv=>by
  have hwx:=hw.up hx
  refine (readCanon_walk m.val wx hwx.tab hwx.err hwx.pow (by omega)).mono ?_
  rintro e w' ⟨b,_,hg⟩
  obtain⟨v,t,p,r1,r2,r3,r4⟩:=hg (hvg hv)
  exact⟨v,t,p,r1,r2,r3,r4,b⟩
 obtain⟨fid,hfid⟩:=verbF_fid m.kind
 have HF:=hide hfid
 obtain⟨wb,hwb⟩ : ∃ wb,wordB m.kind=wb:=⟨_,rfl⟩
 obtain⟨sf,hsfq⟩ : ∃ sf,shF m.kind=sf:=⟨_,rfl⟩
 obtain⟨sp,hspq⟩ : ∃ sp,shP m.kind=sp:=⟨_,rfl⟩
 unfold verbV at HFV
 rw[hfid,hwb,hsfq,hspq] at HFV
 have HQ:Hid (wordB m.kind=wb∧shF m.kind=sf∧shP m.kind=sp):=⟨hwb,hsfq,hspq⟩
 have HA:=hide hA
 have HKA:=hide kA
 have HZA:=hide zA
 unfold opObj at *
 clear h hw hp hs hvg hfid hwb hsfq hspq hA kA zA k1 k6
 cases hv:hasV m.kind with
 | false=>
  have ev:=hvn hv
  rw[hv] at HFV
  have HV:=hide hv
  clear hvn hv HRC
  cases hf:hasF m.kind with
  | false=>
   have es:=hsf hf
   rw[hf] at HFV
   have HFF:=hide hf
   clear hsf hf
   go_enter Tryz.func123,Tryz.ntmps123
   go_wp2_with fail
   generalize (w.alloc (.cells #[.int .i64 m.kind,.string m.path,.string m.src,.string m.val] 59))=wA at *
   refine (uh HFV).mono ?_
   rintro e w1 ⟨rfl,b1⟩
   have hB:=alloc_b w1 (.cells #[.string wb,.int .i64 m.kind,.bool false,.bool false,.bool sf,.bool sp,.func (Fn.func fid) #[] #[]] 141)
   have kB:=heap_alloc_new w1 (.cells #[.string wb,.int .i64 m.kind,.bool false,.bool false,.bool sf,.bool sp,.func (Fn.func fid) #[] #[]] 141)
   have zB:(w1.alloc (.cells #[.string wb,.int .i64 m.kind,.bool false,.bool false,.bool sf,.bool sp,.func (Fn.func fid) #[] #[]] 141)).heap.size=w1.heap.size+1:=by simp
   have b2:=below_next b1 hB
   have hz1:=b1.size
   have k2:=(b2.block w.heap.size (by have:=uh HZA; omega)).trans (uh HKA)
   have c1:(w1.alloc (.cells #[.string wb,.int .i64 m.kind,.bool false,.bool false,.bool sf,.bool sp,.func (Fn.func fid) #[] #[]] 141)).cell? ⟨w.heap.size,1,none⟩=some (.string m.path):=Lib.cell_of_heap k2 1
   have c2:(w1.alloc (.cells #[.string wb,.int .i64 m.kind,.bool false,.bool false,.bool sf,.bool sp,.func (Fn.func fid) #[] #[]] 141)).cell? ⟨w.heap.size,2,none⟩=some (.string m.src):=Lib.cell_of_heap k2 2
   have c3:(w1.alloc (.cells #[.string wb,.int .i64 m.kind,.bool false,.bool false,.bool sf,.bool sp,.func (Fn.func fid) #[] #[]] 141)).cell? ⟨w.heap.size,3,none⟩=some (.string m.val):=Lib.cell_of_heap k2 3
   have HT:=hide (uh HTP _ (below_next (uh HA) b2))
   have HB2:=hide b2
   have HK2:=hide k2
   have HKB:=hide kB
   have HZ1:=hide hz1
   have HZB:=hide zB
   clear HFV b1 hB kB b2 hz1 k2 HKA zB HTP
   go_wp2_with fail
   generalize (w1.alloc (.cells #[.string wb,.int .i64 m.kind,.bool false,.bool false,.bool sf,.bool sp,.func (Fn.func fid) #[] #[]] 141))=w2 at *
   generalize w1.heap.size=V0 at *
   refine (uh HT).mono ?_
   rintro e w3 ⟨pv,rfl,op,b3⟩
   obtain⟨pa,pg,pc,rfl,_,_⟩:=op.shape
   have zB:=uh HZB
   have zA:=uh HZA
   have hz1:=uh HZ1
   have k3:=(b3.block w.heap.size (by omega)).trans (uh HK2)
   have d2:w3.cell? ⟨w.heap.size,2,none⟩=some (.string m.src):=Lib.cell_of_heap k3 2
   have b23:=below_next (uh HB2) b3
   have HT2:=hide (uh HTS _ (below_next (uh HA) b23))
   have HOP:=hide op
   have HB3:=hide b3
   have HK3:=hide k3
   have HKB3:=hide ((b3.block V0 (by omega)).trans (uh HKB))
   have HZ3:=hide b3.size
   have HB23:=hide b23
   clear HT op b3 k3 b23 HK2 HKB HB2 c1 c2 c3 zA zB hz1 HTS
   go_wp2_with fail
   refine (uh HT2).mono ?_
   rintro e w4 ⟨fv,rfl,of,b4⟩
   obtain⟨fa,fg,fc,rfl,_,_⟩:=of.shape
   have zB:=uh HZB
   have zA:=uh HZA
   have hz1:=uh HZ1
   have hz3:=uh HZ3
   have kv:=(b4.block V0 (by omega)).trans (uh HKB3)
   have v0:w4.cell? ⟨V0,0,none⟩=some (.string wb):=Lib.cell_of_heap kv 0
   have v1:w4.cell? ⟨V0,1,none⟩=some (.int .i64 m.kind):=Lib.cell_of_heap kv 1
   have v2:w4.cell? ⟨V0,2,none⟩=some (.bool false):=Lib.cell_of_heap kv 2
   have v3:w4.cell? ⟨V0,3,none⟩=some (.bool false):=Lib.cell_of_heap kv 3
   have v4:w4.cell? ⟨V0,4,none⟩=some (.bool sf):=Lib.cell_of_heap kv 4
   have v5:w4.cell? ⟨V0,5,none⟩=some (.bool sp):=Lib.cell_of_heap kv 5
   have v6:w4.cell? ⟨V0,6,none⟩=some (.func (Fn.func fid) #[] #[]):=Lib.cell_of_heap kv 6
   have hlt4:V0 < w4.heap.size:=(Array.getElem?_eq_some_iff.1 kv).1
   have k4:=(b4.block w.heap.size (by omega)).trans (uh HK3)
   have d3:w4.cell? ⟨w.heap.size,3,none⟩=some (.string m.val):=Lib.cell_of_heap k4 3
   have b24:=below_next (uh HB23) b4
   have OPX:=hide (own_below (uh HOP) b4)
   have OFX:=hide of
   have HZ4:=hide b4.size
   have HB4:=hide b4
   have HB24:=hide b24
   have HK4:=hide k4
   have HKV:=hide kv
   have HL4:=hide hlt4
   clear HT2 of b4 b24 k4 kv HOP HB3 HK3 HKB3 HB23 d2 zA zB hz1 hz3 hlt4
   have hC:=alloc_b w4 (.cells #[.string wb,.int .i64 m.kind,.bool false,.bool false,.bool sf,.bool sp,.func (Fn.func fid) #[] #[],.slice pa (tkOf m.path).length pc,.slice fa (tkOf m.src).length fc,.nilIface] 155)
   have kC:=heap_alloc_new w4 (.cells #[.string wb,.int .i64 m.kind,.bool false,.bool false,.bool sf,.bool sp,.func (Fn.func fid) #[] #[],.slice pa (tkOf m.path).length pc,.slice fa (tkOf m.src).length fc,.nilIface] 155)
   have zC:(w4.alloc (.cells #[.string wb,.int .i64 m.kind,.bool false,.bool false,.bool sf,.bool sp,.func (Fn.func fid) #[] #[],.slice pa (tkOf m.path).length pc,.slice fa (tkOf m.src).length fc,.nilIface] 155)).heap.size=w4.heap.size+1:=by simp
   have e3:(w4.alloc (.cells #[.string wb,.int .i64 m.kind,.bool false,.bool false,.bool sf,.bool sp,.func (Fn.func fid) #[] #[],.slice pa (tkOf m.path).length pc,.slice fa (tkOf m.src).length fc,.nilIface] 155)).cell? ⟨V0,3,none⟩=some (.bool false):=Lib.cell_of_heap ((hC.block V0 (uh HL4)).trans (uh HKV)) 3
   have OPY:=hide (own_below (uh OPX) hC)
   have OFY:=hide (own_below (uh OFX) hC)
   have HB5:=hide (below_next (uh HB24) hC)
   have HKC:=hide kC
   clear hC kC zC OPX OFX HB24 HKV HK4 d3
   go_wp2
   go_ret2
   have zB:=uh HZB
   have zA:=uh HZA
   have hz1:=uh HZ1
   have hz3:=uh HZ3
   have hz4:=uh HZ4
   refine⟨w4.heap.size,_,_,.nilIface,.nul,rfl,⟨?_,by omega,own_mono (uh OPY) (by omega),own_mono (uh OFY) (by omega),fun h=>?_⟩,below_next (uh HA) (uh HB5)⟩
   ·unfold opB
    rw[uh HF,(uh HQ).1,(uh HQ).2.1,(uh HQ).2.2,uh HV,uh HFF]
    exact uh HKC
   ·rw[uh HV] at h; cases h
  | true=>
   rw[hf] at HFV
   have HFF:=hide hf
   clear hsf hf
   go_enter Tryz.func123,Tryz.ntmps123
   go_wp2_with fail
   generalize (w.alloc (.cells #[.int .i64 m.kind,.string m.path,.string m.src,.string m.val] 59))=wA at *
   refine (uh HFV).mono ?_
   rintro e w1 ⟨rfl,b1⟩
   have hB:=alloc_b w1 (.cells #[.string wb,.int .i64 m.kind,.bool true,.bool false,.bool sf,.bool sp,.func (Fn.func fid) #[] #[]] 141)
   have kB:=heap_alloc_new w1 (.cells #[.string wb,.int .i64 m.kind,.bool true,.bool false,.bool sf,.bool sp,.func (Fn.func fid) #[] #[]] 141)
   have zB:(w1.alloc (.cells #[.string wb,.int .i64 m.kind,.bool true,.bool false,.bool sf,.bool sp,.func (Fn.func fid) #[] #[]] 141)).heap.size=w1.heap.size+1:=by simp
   have b2:=below_next b1 hB
   have hz1:=b1.size
   have k2:=(b2.block w.heap.size (by have:=uh HZA; omega)).trans (uh HKA)
   have c1:(w1.alloc (.cells #[.string wb,.int .i64 m.kind,.bool true,.bool false,.bool sf,.bool sp,.func (Fn.func fid) #[] #[]] 141)).cell? ⟨w.heap.size,1,none⟩=some (.string m.path):=Lib.cell_of_heap k2 1
   have c2:(w1.alloc (.cells #[.string wb,.int .i64 m.kind,.bool true,.bool false,.bool sf,.bool sp,.func (Fn.func fid) #[] #[]] 141)).cell? ⟨w.heap.size,2,none⟩=some (.string m.src):=Lib.cell_of_heap k2 2
   have c3:(w1.alloc (.cells #[.string wb,.int .i64 m.kind,.bool true,.bool false,.bool sf,.bool sp,.func (Fn.func fid) #[] #[]] 141)).cell? ⟨w.heap.size,3,none⟩=some (.string m.val):=Lib.cell_of_heap k2 3
   have HT:=hide (uh HTP _ (below_next (uh HA) b2))
   have HB2:=hide b2
   have HK2:=hide k2
   have HKB:=hide kB
   have HZ1:=hide hz1
   have HZB:=hide zB
   clear HFV b1 hB kB b2 hz1 k2 HKA zB HTP
   go_wp2_with fail
   generalize (w1.alloc (.cells #[.string wb,.int .i64 m.kind,.bool true,.bool false,.bool sf,.bool sp,.func (Fn.func fid) #[] #[]] 141))=w2 at *
   generalize w1.heap.size=V0 at *
   refine (uh HT).mono ?_
   rintro e w3 ⟨pv,rfl,op,b3⟩
   obtain⟨pa,pg,pc,rfl,_,_⟩:=op.shape
   have zB:=uh HZB
   have zA:=uh HZA
   have hz1:=uh HZ1
   have k3:=(b3.block w.heap.size (by omega)).trans (uh HK2)
   have d2:w3.cell? ⟨w.heap.size,2,none⟩=some (.string m.src):=Lib.cell_of_heap k3 2
   have b23:=below_next (uh HB2) b3
   have HT2:=hide (uh HTS _ (below_next (uh HA) b23))
   have HOP:=hide op
   have HB3:=hide b3
   have HK3:=hide k3
   have HKB3:=hide ((b3.block V0 (by omega)).trans (uh HKB))
   have HZ3:=hide b3.size
   have HB23:=hide b23
   clear HT op b3 k3 b23 HK2 HKB HB2 c1 c2 c3 zA zB hz1 HTS
   go_wp2_with fail
   refine (uh HT2).mono ?_
   rintro e w4 ⟨fv,rfl,of,b4⟩
   obtain⟨fa,fg,fc,rfl,_,_⟩:=of.shape
   have zB:=uh HZB
   have zA:=uh HZA
   have hz1:=uh HZ1
   have hz3:=uh HZ3
   have kv:=(b4.block V0 (by omega)).trans (uh HKB3)
   have v0:w4.cell? ⟨V0,0,none⟩=some (.string wb):=Lib.cell_of_heap kv 0
   have v1:w4.cell? ⟨V0,1,none⟩=some (.int .i64 m.kind):=Lib.cell_of_heap kv 1
   have v2:w4.cell? ⟨V0,2,none⟩=some (.bool true):=Lib.cell_of_heap kv 2
   have v3:w4.cell? ⟨V0,3,none⟩=some (.bool false):=Lib.cell_of_heap kv 3
   have v4:w4.cell? ⟨V0,4,none⟩=some (.bool sf):=Lib.cell_of_heap kv 4
   have v5:w4.cell? ⟨V0,5,none⟩=some (.bool sp):=Lib.cell_of_heap kv 5
   have v6:w4.cell? ⟨V0,6,none⟩=some (.func (Fn.func fid) #[] #[]):=Lib.cell_of_heap kv 6
   have hlt4:V0 < w4.heap.size:=(Array.getElem?_eq_some_iff.1 kv).1
   have k4:=(b4.block w.heap.size (by omega)).trans (uh HK3)
   have d3:w4.cell? ⟨w.heap.size,3,none⟩=some (.string m.val):=Lib.cell_of_heap k4 3
   have b24:=below_next (uh HB23) b4
   have OPX:=hide (own_below (uh HOP) b4)
   have OFX:=hide of
   have HZ4:=hide b4.size
   have HB4:=hide b4
   have HB24:=hide b24
   have HK4:=hide k4
   have HKV:=hide kv
   have HL4:=hide hlt4
   clear HT2 of b4 b24 k4 kv HOP HB3 HK3 HKB3 HB23 d2 zA zB hz1 hz3 hlt4
   have hC:=alloc_b w4 (.cells #[.string wb,.int .i64 m.kind,.bool true,.bool false,.bool sf,.bool sp,.func (Fn.func fid) #[] #[],.slice pa (tkOf m.path).length pc,.slice fa (tkOf m.src).length fc,.nilIface] 155)
   have kC:=heap_alloc_new w4 (.cells #[.string wb,.int .i64 m.kind,.bool true,.bool false,.bool sf,.bool sp,.func (Fn.func fid) #[] #[],.slice pa (tkOf m.path).length pc,.slice fa (tkOf m.src).length fc,.nilIface] 155)
   have zC:(w4.alloc (.cells #[.string wb,.int .i64 m.kind,.bool true,.bool false,.bool sf,.bool sp,.func (Fn.func fid) #[] #[],.slice pa (tkOf m.path).length pc,.slice fa (tkOf m.src).length fc,.nilIface] 155)).heap.size=w4.heap.size+1:=by simp
   have e3:(w4.alloc (.cells #[.string wb,.int .i64 m.kind,.bool true,.bool false,.bool sf,.bool sp,.func (Fn.func fid) #[] #[],.slice pa (tkOf m.path).length pc,.slice fa (tkOf m.src).length fc,.nilIface] 155)).cell? ⟨V0,3,none⟩=some (.bool false):=Lib.cell_of_heap ((hC.block V0 (uh HL4)).trans (uh HKV)) 3
   have OPY:=hide (own_below (uh OPX) hC)
   have OFY:=hide (own_below (uh OFX) hC)
   have HB5:=hide (below_next (uh HB24) hC)
   have HKC:=hide kC
   clear hC kC zC OPX OFX HB24 HKV HK4 d3
   go_wp2
   go_ret2
   have zB:=uh HZB
   have zA:=uh HZA
   have hz1:=uh HZ1
   have hz3:=uh HZ3
   have hz4:=uh HZ4
   refine⟨w4.heap.size,_,_,.nilIface,.nul,rfl,⟨?_,by omega,own_mono (uh OPY) (by omega),own_mono (uh OFY) (by omega),fun h=>?_⟩,below_next (uh HA) (uh HB5)⟩
   ·unfold opB
    rw[uh HF,(uh HQ).1,(uh HQ).2.1,(uh HQ).2.2,uh HV,uh HFF]
    exact uh HKC
   ·rw[uh HV] at h; cases h
 | true=>
  rw[hv] at HFV
  have HV:=hide hv
  have HRC1:=hide (fun wx hx=>uh HRC wx hx hv)
  clear hvn hv HRC
  cases hf:hasF m.kind with
  | false=>
   have es:=hsf hf
   rw[hf] at HFV
   have HFF:=hide hf
   clear hsf hf
   go_enter Tryz.func123,Tryz.ntmps123
   go_wp2_with fail
   generalize (w.alloc (.cells #[.int .i64 m.kind,.string m.path,.string m.src,.string m.val] 59))=wA at *
   refine (uh HFV).mono ?_
   rintro e w1 ⟨rfl,b1⟩
   have hB:=alloc_b w1 (.cells #[.string wb,.int .i64 m.kind,.bool false,.bool true,.bool sf,.bool sp,.func (Fn.func fid) #[] #[]] 141)
   have kB:=heap_alloc_new w1 (.cells #[.string wb,.int .i64 m.kind,.bool false,.bool true,.bool sf,.bool sp,.func (Fn.func fid) #[] #[]] 141)
   have zB:(w1.alloc (.cells #[.string wb,.int .i64 m.kind,.bool false,.bool true,.bool sf,.bool sp,.func (Fn.func fid) #[] #[]] 141)).heap.size=w1.heap.size+1:=by simp
   have b2:=below_next b1 hB
   have hz1:=b1.size
   have k2:=(b2.block w.heap.size (by have:=uh HZA; omega)).trans (uh HKA)
   have c1:(w1.alloc (.cells #[.string wb,.int .i64 m.kind,.bool false,.bool true,.bool sf,.bool sp,.func (Fn.func fid) #[] #[]] 141)).cell? ⟨w.heap.size,1,none⟩=some (.string m.path):=Lib.cell_of_heap k2 1
   have c2:(w1.alloc (.cells #[.string wb,.int .i64 m.kind,.bool false,.bool true,.bool sf,.bool sp,.func (Fn.func fid) #[] #[]] 141)).cell? ⟨w.heap.size,2,none⟩=some (.string m.src):=Lib.cell_of_heap k2 2
   have c3:(w1.alloc (.cells #[.string wb,.int .i64 m.kind,.bool false,.bool true,.bool sf,.bool sp,.func (Fn.func fid) #[] #[]] 141)).cell? ⟨w.heap.size,3,none⟩=some (.string m.val):=Lib.cell_of_heap k2 3
   have HT:=hide (uh HTP _ (below_next (uh HA) b2))
   have HB2:=hide b2
   have HK2:=hide k2
   have HKB:=hide kB
   have HZ1:=hide hz1
   have HZB:=hide zB
   clear HFV b1 hB kB b2 hz1 k2 HKA zB HTP
   go_wp2_with fail
   generalize (w1.alloc (.cells #[.string wb,.int .i64 m.kind,.bool false,.bool true,.bool sf,.bool sp,.func (Fn.func fid) #[] #[]] 141))=w2 at *
   generalize w1.heap.size=V0 at *
   refine (uh HT).mono ?_
   rintro e w3 ⟨pv,rfl,op,b3⟩
   obtain⟨pa,pg,pc,rfl,_,_⟩:=op.shape
   have zB:=uh HZB
   have zA:=uh HZA
   have hz1:=uh HZ1
   have k3:=(b3.block w.heap.size (by omega)).trans (uh HK2)
   have d2:w3.cell? ⟨w.heap.size,2,none⟩=some (.string m.src):=Lib.cell_of_heap k3 2
   have b23:=below_next (uh HB2) b3
   have HT2:=hide (uh HTS _ (below_next (uh HA) b23))
   have HOP:=hide op
   have HB3:=hide b3
   have HK3:=hide k3
   have HKB3:=hide ((b3.block V0 (by omega)).trans (uh HKB))
   have HZ3:=hide b3.size
   have HB23:=hide b23
   clear HT op b3 k3 b23 HK2 HKB HB2 c1 c2 c3 zA zB hz1 HTS
   go_wp2_with fail
   refine (uh HT2).mono ?_
   rintro e w4 ⟨fv,rfl,of,b4⟩
   obtain⟨fa,fg,fc,rfl,_,_⟩:=of.shape
   have zB:=uh HZB
   have zA:=uh HZA
   have hz1:=uh HZ1
   have hz3:=uh HZ3
   have kv:=(b4.block V0 (by omega)).trans (uh HKB3)
   have v0:w4.cell? ⟨V0,0,none⟩=some (.string wb):=Lib.cell_of_heap kv 0
   have v1:w4.cell? ⟨V0,1,none⟩=some (.int .i64 m.kind):=Lib.cell_of_heap kv 1
   have v2:w4.cell? ⟨V0,2,none⟩=some (.bool false):=Lib.cell_of_heap kv 2
   have v3:w4.cell? ⟨V0,3,none⟩=some (.bool true):=Lib.cell_of_heap kv 3
   have v4:w4.cell? ⟨V0,4,none⟩=some (.bool sf):=Lib.cell_of_heap kv 4
   have v5:w4.cell? ⟨V0,5,none⟩=some (.bool sp):=Lib.cell_of_heap kv 5
   have v6:w4.cell? ⟨V0,6,none⟩=some (.func (Fn.func fid) #[] #[]):=Lib.cell_of_heap kv 6
   have hlt4:V0 < w4.heap.size:=(Array.getElem?_eq_some_iff.1 kv).1
   have k4:=(b4.block w.heap.size (by omega)).trans (uh HK3)
   have d3:w4.cell? ⟨w.heap.size,3,none⟩=some (.string m.val):=Lib.cell_of_heap k4 3
   have b24:=below_next (uh HB23) b4
   have OPX:=hide (own_below (uh HOP) b4)
   have OFX:=hide of
   have HZ4:=hide b4.size
   have HB4:=hide b4
   have HB24:=hide b24
   have HK4:=hide k4
   have HKV:=hide kv
   have HL4:=hide hlt4
   clear HT2 of b4 b24 k4 kv HOP HB3 HK3 HKB3 HB23 d2 zA zB hz1 hz3 hlt4
   have hC:=alloc_b w4 (.cells #[.string wb,.int .i64 m.kind,.bool false,.bool true,.bool sf,.bool sp,.func (Fn.func fid) #[] #[],.slice pa (tkOf m.path).length pc,.slice fa (tkOf m.src).length fc,.nilIface] 155)
   have kC:=heap_alloc_new w4 (.cells #[.string wb,.int .i64 m.kind,.bool false,.bool true,.bool sf,.bool sp,.func (Fn.func fid) #[] #[],.slice pa (tkOf m.path).length pc,.slice fa (tkOf m.src).length fc,.nilIface] 155)
   have zC:(w4.alloc (.cells #[.string wb,.int .i64 m.kind,.bool false,.bool true,.bool sf,.bool sp,.func (Fn.func fid) #[] #[],.slice pa (tkOf m.path).length pc,.slice fa (tkOf m.src).length fc,.nilIface] 155)).heap.size=w4.heap.size+1:=by simp
   have e3:(w4.alloc (.cells #[.string wb,.int .i64 m.kind,.bool false,.bool true,.bool sf,.bool sp,.func (Fn.func fid) #[] #[],.slice pa (tkOf m.path).length pc,.slice fa (tkOf m.src).length fc,.nilIface] 155)).cell? ⟨V0,3,none⟩=some (.bool true):=Lib.cell_of_heap ((hC.block V0 (uh HL4)).trans (uh HKV)) 3
   have f3:(w4.alloc (.cells #[.string wb,.int .i64 m.kind,.bool false,.bool true,.bool sf,.bool sp,.func (Fn.func fid) #[] #[],.slice pa (tkOf m.path).length pc,.slice fa (tkOf m.src).length fc,.nilIface] 155)).cell? ⟨w.heap.size,3,none⟩=some (.string m.val):=by
    have zB:=uh HZB
    have zA:=uh HZA
    have hz1:=uh HZ1
    have hz3:=uh HZ3
    have hz4:=uh HZ4
    exact Lib.cell_of_heap ((hC.block w.heap.size (by omega)).trans (uh HK4)) 3
   have b25:=below_next (uh HB24) hC
   have HR:=hide (uh HRC1 _ (below_next (uh HA) b25))
   have HB5:=hide (below_next (uh HA) b25)
   have HKC:=hide kC
   have HZC:=hide zC
   have HCC:=hide hC
   clear hC kC zC HB24 HKV HK4 d3 HRC1 b25
   go_wp2_with fail
   generalize (w4.alloc (.cells #[.string wb,.int .i64 m.kind,.bool false,.bool true,.bool sf,.bool sp,.func (Fn.func fid) #[] #[],.slice pa (tkOf m.path).length pc,.slice fa (tkOf m.src).length fc,.nilIface] 155))=w5 at *
   generalize hG:w4.heap.size=G0 at *
   have HGE:=hide hG
   clear hG
   refine (uh HR).mono ?_
   rintro e w6 ⟨v,t,p,r1,r2,rfl,rep,b6⟩
   have zC:=uh HZC
   have k6:=(b6.block G0 (by omega)).trans (uh HKC)
   have g9:w6.cell? ⟨G0,9,none⟩=some .nilIface:=Lib.cell_of_heap k6 9
   have f9:=Lib.frozen_of_heap k6 9
   have k7:=heap_setCell_same w6 G0 9 _ _ (.iface t p) k6
   have HR1:=hide r1
   have HR2:=hide r2
   have HREP:=hide rep
   have HK7:=hide k7
   have HB6:=hide b6
   clear HR r1 r2 rep b6 k6 k7 zC HKC
   go_wp2
   go_ret2
   have zB:=uh HZB
   have zA:=uh HZA
   have hz1:=uh HZ1
   have hz3:=uh HZ3
   have hz4:=uh HZ4
   have zC:=uh HZC
   have B47:Below w4.heap.size w4 (w6.setCell ⟨G0,9,none⟩ (.iface t p)):=by
    rw[uh HGE]
    exact ((uh HCC).trans ((uh HB6).mono (by omega))).setCell (p:=⟨G0,9,none⟩) (Nat.le_refl _) _
   have z7:(w6.setCell ⟨G0,9,none⟩ (.iface t p)).heap.size=w6.heap.size:=by simp[World.setCell]
   refine⟨G0,_,_,.iface t p,v,rfl,⟨?_,by omega,own_mono (own_below (uh OPX) B47) (by omega),own_mono (own_below (uh OFX) B47) (by omega),fun _=>⟨uh HR1,uh HR2,t,p,rfl,?_⟩⟩,((uh HB5).trans ((uh HB6).mono (by omega))).setCell (p:=⟨G0,9,none⟩) (by show w.heap.size≤G0; omega) _⟩
   ·unfold opB
    rw[uh HF,(uh HQ).1,(uh HQ).2.1,(uh HQ).2.2,uh HV,uh HFF]
    exact uh HK7
   ·exact Rep.keep (fun k hk=>Below.heap_setCell w6 ⟨G0,9,none⟩ _ k (fun e=>by have:k=G0:=e; omega)) (fun k hk=>⟨by omega,by rw[z7]; exact hk.2⟩) _ _ (uh HREP)
  | true=>
   rw[hf] at HFV
   have HFF:=hide hf
   clear hsf hf
   go_enter Tryz.func123,Tryz.ntmps123
   go_wp2_with fail
   generalize (w.alloc (.cells #[.int .i64 m.kind,.string m.path,.string m.src,.string m.val] 59))=wA at *
   refine (uh HFV).mono ?_
   rintro e w1 ⟨rfl,b1⟩
   have hB:=alloc_b w1 (.cells #[.string wb,.int .i64 m.kind,.bool true,.bool true,.bool sf,.bool sp,.func (Fn.func fid) #[] #[]] 141)
   have kB:=heap_alloc_new w1 (.cells #[.string wb,.int .i64 m.kind,.bool true,.bool true,.bool sf,.bool sp,.func (Fn.func fid) #[] #[]] 141)
   have zB:(w1.alloc (.cells #[.string wb,.int .i64 m.kind,.bool true,.bool true,.bool sf,.bool sp,.func (Fn.func fid) #[] #[]] 141)).heap.size=w1.heap.size+1:=by simp
   have b2:=below_next b1 hB
   have hz1:=b1.size
   have k2:=(b2.block w.heap.size (by have:=uh HZA; omega)).trans (uh HKA)
   have c1:(w1.alloc (.cells #[.string wb,.int .i64 m.kind,.bool true,.bool true,.bool sf,.bool sp,.func (Fn.func fid) #[] #[]] 141)).cell? ⟨w.heap.size,1,none⟩=some (.string m.path):=Lib.cell_of_heap k2 1
   have c2:(w1.alloc (.cells #[.string wb,.int .i64 m.kind,.bool true,.bool true,.bool sf,.bool sp,.func (Fn.func fid) #[] #[]] 141)).cell? ⟨w.heap.size,2,none⟩=some (.string m.src):=Lib.cell_of_heap k2 2
   have c3:(w1.alloc (.cells #[.string wb,.int .i64 m.kind,.bool true,.bool true,.bool sf,.bool sp,.func (Fn.func fid) #[] #[]] 141)).cell? ⟨w.heap.size,3,none⟩=some (.string m.val):=Lib.cell_of_heap k2 3
   have HT:=hide (uh HTP _ (below_next (uh HA) b2))
   have HB2:=hide b2
   have HK2:=hide k2
   have HKB:=hide kB
   have HZ1:=hide hz1
   have HZB:=hide zB
   clear HFV b1 hB kB b2 hz1 k2 HKA zB HTP
   go_wp2_with fail
   generalize (w1.alloc (.cells #[.string wb,.int .i64 m.kind,.bool true,.bool true,.bool sf,.bool sp,.func (Fn.func fid) #[] #[]] 141))=w2 at *
   generalize w1.heap.size=V0 at *
   refine (uh HT).mono ?_
   rintro e w3 ⟨pv,rfl,op,b3⟩
   obtain⟨pa,pg,pc,rfl,_,_⟩:=op.shape
   have zB:=uh HZB
   have zA:=uh HZA
   have hz1:=uh HZ1
   have k3:=(b3.block w.heap.size (by omega)).trans (uh HK2)
   have d2:w3.cell? ⟨w.heap.size,2,none⟩=some (.string m.src):=Lib.cell_of_heap k3 2
   have b23:=below_next (uh HB2) b3
   have HT2:=hide (uh HTS _ (below_next (uh HA) b23))
   have HOP:=hide op
   have HB3:=hide b3
   have HK3:=hide k3
   have HKB3:=hide ((b3.block V0 (by omega)).trans (uh HKB))
   have HZ3:=hide b3.size
   have HB23:=hide b23
   clear HT op b3 k3 b23 HK2 HKB HB2 c1 c2 c3 zA zB hz1 HTS
   go_wp2_with fail
   refine (uh HT2).mono ?_
   rintro e w4 ⟨fv,rfl,of,b4⟩
   obtain⟨fa,fg,fc,rfl,_,_⟩:=of.shape
   have zB:=uh HZB
   have zA:=uh HZA
   have hz1:=uh HZ1
   have hz3:=uh HZ3
   have kv:=(b4.block V0 (by omega)).trans (uh HKB3)
   have v0:w4.cell? ⟨V0,0,none⟩=some (.string wb):=Lib.cell_of_heap kv 0
   have v1:w4.cell? ⟨V0,1,none⟩=some (.int .i64 m.kind):=Lib.cell_of_heap kv 1
   have v2:w4.cell? ⟨V0,2,none⟩=some (.bool true):=Lib.cell_of_heap kv 2
   have v3:w4.cell? ⟨V0,3,none⟩=some (.bool true):=Lib.cell_of_heap kv 3
   have v4:w4.cell? ⟨V0,4,none⟩=some (.bool sf):=Lib.cell_of_heap kv 4
   have v5:w4.cell? ⟨V0,5,none⟩=some (.bool sp):=Lib.cell_of_heap kv 5
   have v6:w4.cell? ⟨V0,6,none⟩=some (.func (Fn.func fid) #[] #[]):=Lib.cell_of_heap kv 6
   have hlt4:V0 < w4.heap.size:=(Array.getElem?_eq_some_iff.1 kv).1
   have k4:=(b4.block w.heap.size (by omega)).trans (uh HK3)
   have d3:w4.cell? ⟨w.heap.size,3,none⟩=some (.string m.val):=Lib.cell_of_heap k4 3
   have b24:=below_next (uh HB23) b4
   have OPX:=hide (own_below (uh HOP) b4)
   have OFX:=hide of
   have HZ4:=hide b4.size
   have HB4:=hide b4
   have HB24:=hide b24
   have HK4:=hide k4
   have HKV:=hide kv
   have HL4:=hide hlt4
   clear HT2 of b4 b24 k4 kv HOP HB3 HK3 HKB3 HB23 d2 zA zB hz1 hz3 hlt4
   have hC:=alloc_b w4 (.cells #[.string wb,.int .i64 m.kind,.bool true,.bool true,.bool sf,.bool sp,.func (Fn.func fid) #[] #[],.slice pa (tkOf m.path).length pc,.slice fa (tkOf m.src).length fc,.nilIface] 155)
   have kC:=heap_alloc_new w4 (.cells #[.string wb,.int .i64 m.kind,.bool true,.bool true,.bool sf,.bool sp,.func (Fn.func fid) #[] #[],.slice pa (tkOf m.path).length pc,.slice fa (tkOf m.src).length fc,.nilIface] 155)
   have zC:(w4.alloc (.cells #[.string wb,.int .i64 m.kind,.bool true,.bool true,.bool sf,.bool sp,.func (Fn.func fid) #[] #[],.slice pa (tkOf m.path).length pc,.slice fa (tkOf m.src).length fc,.nilIface] 155)).heap.size=w4.heap.size+1:=by simp
   have e3:(w4.alloc (.cells #[.string wb,.int .i64 m.kind,.bool true,.bool true,.bool sf,.bool sp,.func (Fn.func fid) #[] #[],.slice pa (tkOf m.path).length pc,.slice fa (tkOf m.src).length fc,.nilIface] 155)).cell? ⟨V0,3,none⟩=some (.bool true):=Lib.cell_of_heap ((hC.block V0 (uh HL4)).trans (uh HKV)) 3
   have f3:(w4.alloc (.cells #[.string wb,.int .i64 m.kind,.bool true,.bool true,.bool sf,.bool sp,.func (Fn.func fid) #[] #[],.slice pa (tkOf m.path).length pc,.slice fa (tkOf m.src).length fc,.nilIface] 155)).cell? ⟨w.heap.size,3,none⟩=some (.string m.val):=by
    have zB:=uh HZB
    have zA:=uh HZA
    have hz1:=uh HZ1
    have hz3:=uh HZ3
    have hz4:=uh HZ4
    exact Lib.cell_of_heap ((hC.block w.heap.size (by omega)).trans (uh HK4)) 3
   have b25:=below_next (uh HB24) hC
   have HR:=hide (uh HRC1 _ (below_next (uh HA) b25))
   have HB5:=hide (below_next (uh HA) b25)
   have HKC:=hide kC
   have HZC:=hide zC
   have HCC:=hide hC
   clear hC kC zC HB24 HKV HK4 d3 HRC1 b25
   go_wp2_with fail
   generalize (w4.alloc (.cells #[.string wb,.int .i64 m.kind,.bool true,.bool true,.bool sf,.bool sp,.func (Fn.func fid) #[] #[],.slice pa (tkOf m.path).length pc,.slice fa (tkOf m.src).length fc,.nilIface] 155))=w5 at *
   generalize hG:w4.heap.size=G0 at *
   have HGE:=hide hG
   clear hG
   refine (uh HR).mono ?_
   rintro e w6 ⟨v,t,p,r1,r2,rfl,rep,b6⟩
   have zC:=uh HZC
   have k6:=(b6.block G0 (by omega)).trans (uh HKC)
   have g9:w6.cell? ⟨G0,9,none⟩=some .nilIface:=Lib.cell_of_heap k6 9
   have f9:=Lib.frozen_of_heap k6 9
   have k7:=heap_setCell_same w6 G0 9 _ _ (.iface t p) k6
   have HR1:=hide r1
   have HR2:=hide r2
   have HREP:=hide rep
   have HK7:=hide k7
   have HB6:=hide b6
   clear HR r1 r2 rep b6 k6 k7 zC HKC
   go_wp2
   go_ret2
   have zB:=uh HZB
   have zA:=uh HZA
   have hz1:=uh HZ1
   have hz3:=uh HZ3
   have hz4:=uh HZ4
   have zC:=uh HZC
   have B47:Below w4.heap.size w4 (w6.setCell ⟨G0,9,none⟩ (.iface t p)):=by
    rw[uh HGE]
    exact ((uh HCC).trans ((uh HB6).mono (by omega))).setCell (p:=⟨G0,9,none⟩) (Nat.le_refl _) _
   have z7:(w6.setCell ⟨G0,9,none⟩ (.iface t p)).heap.size=w6.heap.size:=by simp[World.setCell]
   refine⟨G0,_,_,.iface t p,v,rfl,⟨?_,by omega,own_mono (own_below (uh OPX) B47) (by omega),own_mono (own_below (uh OFX) B47) (by omega),fun _=>⟨uh HR1,uh HR2,t,p,rfl,?_⟩⟩,((uh HB5).trans ((uh HB6).mono (by omega))).setCell (p:=⟨G0,9,none⟩) (by show w.heap.size≤G0; omega) _⟩
   ·unfold opB
    rw[uh HF,(uh HQ).1,(uh HQ).2.1,(uh HQ).2.2,uh HV,uh HFF]
    exact uh HK7
   ·exact Rep.keep (fun k hk=>Below.heap_setCell w6 ⟨G0,9,none⟩ _ k (fun e=>by have:k=G0:=e; omega)) (fun k hk=>⟨by omega,by rw[z7]; exact hk.2⟩) _ _ (uh HREP)
def RNo (w:World) (e:Ending) (w':World) : Prop:=e = .returned (.tuple #[.pointer none,.bool false])∧Below w.heap.size w w'
theorem opOk_not {m:POp} (h:opOk m=false) : ¬ (1≤m.kind∧m.kind≤6)∨(hasF m.kind=false∧¬ m.src.toList=[])∨(hasV m.kind=false∧¬ m.val.toList=[])∨((ptoks m.path.data.toList).isSome=false∨(ptoks m.src.data.toList).isSome=false)∨(hasV m.kind=true∧goodT m.val=false):=by
 by_cases h1:1≤m.kind∧m.kind≤6
 ·right
  unfold opOk at h
  rw[decide_eq_true h1.1,decide_eq_true h1.2] at h
  cases hp:(ptoks m.path.data.toList).isSome with
  | false=>exact .inr (.inr (.inl (.inl rfl)))
  | true=>
   rw[hp] at h
   cases hf:hasF m.kind with
   | true=>
    rw[hf] at h
    cases hq:(ptoks m.src.data.toList).isSome with
    | false=>exact .inr (.inr (.inl (.inr rfl)))
    | true=>
     rw[hq] at h
     cases hv:hasV m.kind with
     | true=>rw[hv] at h; exact .inr (.inr (.inr ⟨rfl,by simpa using h⟩))
     | false=>rw[hv] at h; exact .inr (.inl ⟨rfl,by simpa using h⟩)
   | false=>
    rw[hf] at h
    by_cases hs:m.src.toList=[]
    ·rw[hs] at h
     cases hv:hasV m.kind with
     | true=>rw[hv] at h; exact .inr (.inr (.inr ⟨rfl,by simpa using h⟩))
     | false=>rw[hv] at h; exact .inr (.inl ⟨rfl,by simpa using h⟩)
    ·exact .inl ⟨rfl,hs⟩
 ·exact .inl h1
theorem readOp_kind (m:POp) (w:World) (hno:¬ (1≤m.kind∧m.kind≤6)) :
  Calls Tryz.prog 123 #[.agg #[.int .i64 m.kind,.string m.path,.string m.src,.string m.val]] w (RNo w):=by
 have hA:=alloc_b w (opObj m)
 have kA:=heap_alloc_new w (opObj m)
 have zA:(w.alloc (opObj m)).heap.size=w.heap.size+1:=by simp
 have HFV:=hide (findVerb_no w.heap.size m (w.alloc (opObj m)) kA hno)
 have HA:=hide hA
 unfold opObj verb0 at *
 clear hA kA zA hno
 go_enter Tryz.func123,Tryz.ntmps123
 go_wp2_with fail
 generalize (w.alloc (.cells #[.int .i64 m.kind,.string m.path,.string m.src,.string m.val] 59))=wA at *
 refine (uh HFV).mono ?_
 rintro e w1 ⟨rfl,b1⟩
 have HB2:=hide (below_next (uh HA) (below_next b1 (alloc_b w1 (.cells #[.string ⟨#[]⟩,.int .i64 0,.bool false,.bool false,.bool false,.bool false,.nilFunc] 141))))
 clear HFV b1
 go_wp2
 go_ret2
 exact⟨rfl,uh HB2⟩
theorem readOp_src (m:POp) (w:World) (k1:1≤m.kind) (k6:m.kind≤6) (hf:hasF m.kind=false) (hs:¬ m.src.toList=[]) :
  Calls Tryz.prog 123 #[.agg #[.int .i64 m.kind,.string m.path,.string m.src,.string m.val]] w (RNo w):=by
 have hA:=alloc_b w (opObj m)
 have kA:=heap_alloc_new w (opObj m)
 have zA:(w.alloc (opObj m)).heap.size=w.heap.size+1:=by simp
 have HFV:=hide (findVerb_yes w.heap.size m (w.alloc (opObj m)) kA k1 k6)
 obtain⟨fid,hfid⟩:=verbF_fid m.kind
 obtain⟨wb,hwb⟩ : ∃ wb,wordB m.kind=wb:=⟨_,rfl⟩
 obtain⟨sf,hsfq⟩ : ∃ sf,shF m.kind=sf:=⟨_,rfl⟩
 obtain⟨sp,hspq⟩ : ∃ sp,shP m.kind=sp:=⟨_,rfl⟩
 unfold verbV at HFV
 rw[hfid,hwb,hsfq,hspq] at HFV
 have HA:=hide hA
 have HKA:=hide kA
 have HZA:=hide zA
 unfold opObj at *
 clear hfid hwb hsfq hspq hA kA zA k1 k6
 rw[hf] at HFV
 clear hf
 cases hv:hasV m.kind with
 | false=>
  rw[hv] at HFV
  clear hv
  go_enter Tryz.func123,Tryz.ntmps123
  go_wp2_with fail
  generalize (w.alloc (.cells #[.int .i64 m.kind,.string m.path,.string m.src,.string m.val] 59))=wA at *
  refine (uh HFV).mono ?_
  rintro e w1 ⟨rfl,b1⟩
  have hB:=alloc_b w1 (.cells #[.string wb,.int .i64 m.kind,.bool false,.bool false,.bool sf,.bool sp,.func (Fn.func fid) #[] #[]] 141)
  have b2:=below_next b1 hB
  have k2:=(b2.block w.heap.size (by have:=uh HZA; omega)).trans (uh HKA)
  have c1:(w1.alloc (.cells #[.string wb,.int .i64 m.kind,.bool false,.bool false,.bool sf,.bool sp,.func (Fn.func fid) #[] #[]] 141)).cell? ⟨w.heap.size,1,none⟩=some (.string m.path):=Lib.cell_of_heap k2 1
  have c2:(w1.alloc (.cells #[.string wb,.int .i64 m.kind,.bool false,.bool false,.bool sf,.bool sp,.func (Fn.func fid) #[] #[]] 141)).cell? ⟨w.heap.size,2,none⟩=some (.string m.src):=Lib.cell_of_heap k2 2
  have c3:(w1.alloc (.cells #[.string wb,.int .i64 m.kind,.bool false,.bool false,.bool sf,.bool sp,.func (Fn.func fid) #[] #[]] 141)).cell? ⟨w.heap.size,3,none⟩=some (.string m.val):=Lib.cell_of_heap k2 3
  have HB2:=hide (below_next (uh HA) b2)
  clear HFV b1 hB b2 k2 HKA
  go_wp2
  go_ret2
  exact⟨rfl,uh HB2⟩
 | true=>
  rw[hv] at HFV
  clear hv
  go_enter Tryz.func123,Tryz.ntmps123
  go_wp2_with fail
  generalize (w.alloc (.cells #[.int .i64 m.kind,.string m.path,.string m.src,.string m.val] 59))=wA at *
  refine (uh HFV).mono ?_
  rintro e w1 ⟨rfl,b1⟩
  have hB:=alloc_b w1 (.cells #[.string wb,.int .i64 m.kind,.bool false,.bool true,.bool sf,.bool sp,.func (Fn.func fid) #[] #[]] 141)
  have b2:=below_next b1 hB
  have k2:=(b2.block w.heap.size (by have:=uh HZA; omega)).trans (uh HKA)
  have c1:(w1.alloc (.cells #[.string wb,.int .i64 m.kind,.bool false,.bool true,.bool sf,.bool sp,.func (Fn.func fid) #[] #[]] 141)).cell? ⟨w.heap.size,1,none⟩=some (.string m.path):=Lib.cell_of_heap k2 1
  have c2:(w1.alloc (.cells #[.string wb,.int .i64 m.kind,.bool false,.bool true,.bool sf,.bool sp,.func (Fn.func fid) #[] #[]] 141)).cell? ⟨w.heap.size,2,none⟩=some (.string m.src):=Lib.cell_of_heap k2 2
  have c3:(w1.alloc (.cells #[.string wb,.int .i64 m.kind,.bool false,.bool true,.bool sf,.bool sp,.func (Fn.func fid) #[] #[]] 141)).cell? ⟨w.heap.size,3,none⟩=some (.string m.val):=Lib.cell_of_heap k2 3
  have HB2:=hide (below_next (uh HA) b2)
  clear HFV b1 hB b2 k2 HKA
  go_wp2
  go_ret2
  exact⟨rfl,uh HB2⟩
theorem readOp_val (m:POp) (w:World) (k1:1≤m.kind) (k6:m.kind≤6) (hsf:hasF m.kind=false→m.src.toList=[]) (hv:hasV m.kind=false) (hs:¬ m.val.toList=[]) :
  Calls Tryz.prog 123 #[.agg #[.int .i64 m.kind,.string m.path,.string m.src,.string m.val]] w (RNo w):=by
 have hA:=alloc_b w (opObj m)
 have kA:=heap_alloc_new w (opObj m)
 have zA:(w.alloc (opObj m)).heap.size=w.heap.size+1:=by simp
 have HFV:=hide (findVerb_yes w.heap.size m (w.alloc (opObj m)) kA k1 k6)
 obtain⟨fid,hfid⟩:=verbF_fid m.kind
 obtain⟨wb,hwb⟩ : ∃ wb,wordB m.kind=wb:=⟨_,rfl⟩
 obtain⟨sf,hsfq⟩ : ∃ sf,shF m.kind=sf:=⟨_,rfl⟩
 obtain⟨sp,hspq⟩ : ∃ sp,shP m.kind=sp:=⟨_,rfl⟩
 unfold verbV at HFV
 rw[hfid,hwb,hsfq,hspq] at HFV
 have HA:=hide hA
 have HKA:=hide kA
 have HZA:=hide zA
 unfold opObj at *
 clear hfid hwb hsfq hspq hA kA zA k1 k6
 rw[hv] at HFV
 have hi:m.val.toList.isEmpty=false:=by rw[← Bool.not_eq_true,List.isEmpty_iff]; exact hs
 clear hv hs
 cases hf:hasF m.kind with
 | false=>
  have es:=hsf hf
  rw[hf] at HFV
  clear hf hsf
  go_enter Tryz.func123,Tryz.ntmps123
  go_wp2_with fail
  generalize (w.alloc (.cells #[.int .i64 m.kind,.string m.path,.string m.src,.string m.val] 59))=wA at *
  refine (uh HFV).mono ?_
  rintro e w1 ⟨rfl,b1⟩
  have hB:=alloc_b w1 (.cells #[.string wb,.int .i64 m.kind,.bool false,.bool false,.bool sf,.bool sp,.func (Fn.func fid) #[] #[]] 141)
  have b2:=below_next b1 hB
  have k2:=(b2.block w.heap.size (by have:=uh HZA; omega)).trans (uh HKA)
  have c1:(w1.alloc (.cells #[.string wb,.int .i64 m.kind,.bool false,.bool false,.bool sf,.bool sp,.func (Fn.func fid) #[] #[]] 141)).cell? ⟨w.heap.size,1,none⟩=some (.string m.path):=Lib.cell_of_heap k2 1
  have c2:(w1.alloc (.cells #[.string wb,.int .i64 m.kind,.bool false,.bool false,.bool sf,.bool sp,.func (Fn.func fid) #[] #[]] 141)).cell? ⟨w.heap.size,2,none⟩=some (.string m.src):=Lib.cell_of_heap k2 2
  have c3:(w1.alloc (.cells #[.string wb,.int .i64 m.kind,.bool false,.bool false,.bool sf,.bool sp,.func (Fn.func fid) #[] #[]] 141)).cell? ⟨w.heap.size,3,none⟩=some (.string m.val):=Lib.cell_of_heap k2 3
  have HB2:=hide (below_next (uh HA) b2)
  clear HFV b1 hB b2 k2 HKA
  go_wp2
  go_ret2
  exact⟨rfl,uh HB2⟩
 | true=>
  rw[hf] at HFV
  clear hf hsf
  go_enter Tryz.func123,Tryz.ntmps123
  go_wp2_with fail
  generalize (w.alloc (.cells #[.int .i64 m.kind,.string m.path,.string m.src,.string m.val] 59))=wA at *
  refine (uh HFV).mono ?_
  rintro e w1 ⟨rfl,b1⟩
  have hB:=alloc_b w1 (.cells #[.string wb,.int .i64 m.kind,.bool true,.bool false,.bool sf,.bool sp,.func (Fn.func fid) #[] #[]] 141)
  have b2:=below_next b1 hB
  have k2:=(b2.block w.heap.size (by have:=uh HZA; omega)).trans (uh HKA)
  have c1:(w1.alloc (.cells #[.string wb,.int .i64 m.kind,.bool true,.bool false,.bool sf,.bool sp,.func (Fn.func fid) #[] #[]] 141)).cell? ⟨w.heap.size,1,none⟩=some (.string m.path):=Lib.cell_of_heap k2 1
  have c2:(w1.alloc (.cells #[.string wb,.int .i64 m.kind,.bool true,.bool false,.bool sf,.bool sp,.func (Fn.func fid) #[] #[]] 141)).cell? ⟨w.heap.size,2,none⟩=some (.string m.src):=Lib.cell_of_heap k2 2
  have c3:(w1.alloc (.cells #[.string wb,.int .i64 m.kind,.bool true,.bool false,.bool sf,.bool sp,.func (Fn.func fid) #[] #[]] 141)).cell? ⟨w.heap.size,3,none⟩=some (.string m.val):=Lib.cell_of_heap k2 3
  have HB2:=hide (below_next (uh HA) b2)
  clear HFV b1 hB b2 k2 HKA
  go_wp2
  go_ret2
  exact⟨rfl,uh HB2⟩
theorem readOp_tok (m:POp) (w:World) (k1:1≤m.kind) (k6:m.kind≤6) (hw:RdW w) (hz1:m.path.size≤1048576) (hz2:m.src.size≤1048576) (hsf:hasF m.kind=false→m.src.toList=[]) (hvn:hasV m.kind=false→m.val.toList=[]) (hpq:(ptoks m.path.data.toList).isSome=false∨(ptoks m.src.data.toList).isSome=false) :
  Calls Tryz.prog 123 #[.agg #[.int .i64 m.kind,.string m.path,.string m.src,.string m.val]] w (RNo w):=by
 have hA:=alloc_b w (opObj m)
 have kA:=heap_alloc_new w (opObj m)
 have zA:(w.alloc (opObj m)).heap.size=w.heap.size+1:=by simp
 have HFV:=hide (findVerb_yes w.heap.size m (w.alloc (opObj m)) kA k1 k6)
 obtain⟨fid,hfid⟩:=verbF_fid m.kind
 obtain⟨wb,hwb⟩ : ∃ wb,wordB m.kind=wb:=⟨_,rfl⟩
 obtain⟨sf,hsfq⟩ : ∃ sf,shF m.kind=sf:=⟨_,rfl⟩
 obtain⟨sp,hspq⟩ : ∃ sp,shP m.kind=sp:=⟨_,rfl⟩
 unfold verbV at HFV
 rw[hfid,hwb,hsfq,hspq] at HFV
 have HA:=hide hA
 have HKA:=hide kA
 have HZA:=hide zA
 unfold opObj at *
 clear hfid hwb hsfq hspq hA kA zA k1 k6
 have HTP:Hid (∀ wx,Below w.heap.size w wx→Calls Tryz.prog 117 #[.string m.path] wx fun e w'=>∃ v,e = .returned (.tuple #[v,.bool (ptoks m.path.data.toList).isSome])∧OT w' wx.heap.size v (tkOf m.path)∧Below wx.heap.size wx w'):=fun wx hx=>implToks_walk m.path wx (hw.up hx).ml hz1
 have HTS:Hid (∀ wx,Below w.heap.size w wx→Calls Tryz.prog 117 #[.string m.src] wx fun e w'=>∃ v,e = .returned (.tuple #[v,.bool (ptoks m.src.data.toList).isSome])∧OT w' wx.heap.size v (tkOf m.src)∧Below wx.heap.size wx w'):=fun wx hx=>implToks_walk m.src wx (hw.up hx).ml hz2
 generalize (ptoks m.path.data.toList).isSome=zp at *
 generalize (ptoks m.src.data.toList).isSome=zq at *
 clear hw
 cases hv:hasV m.kind with
 | false=>
  have ev:=hvn hv
  rw[hv] at HFV
  clear hv hvn
  cases hf:hasF m.kind with
  | false=>
   have es:=hsf hf
   rw[hf] at HFV
   clear hf hsf
   go_enter Tryz.func123,Tryz.ntmps123
   go_wp2_with fail
   generalize (w.alloc (.cells #[.int .i64 m.kind,.string m.path,.string m.src,.string m.val] 59))=wA at *
   refine (uh HFV).mono ?_
   rintro e w1 ⟨rfl,b1⟩
   have hB:=alloc_b w1 (.cells #[.string wb,.int .i64 m.kind,.bool false,.bool false,.bool sf,.bool sp,.func (Fn.func fid) #[] #[]] 141)
   have b2:=below_next b1 hB
   have k2:=(b2.block w.heap.size (by have:=uh HZA; omega)).trans (uh HKA)
   have c1:(w1.alloc (.cells #[.string wb,.int .i64 m.kind,.bool false,.bool false,.bool sf,.bool sp,.func (Fn.func fid) #[] #[]] 141)).cell? ⟨w.heap.size,1,none⟩=some (.string m.path):=Lib.cell_of_heap k2 1
   have c2:(w1.alloc (.cells #[.string wb,.int .i64 m.kind,.bool false,.bool false,.bool sf,.bool sp,.func (Fn.func fid) #[] #[]] 141)).cell? ⟨w.heap.size,2,none⟩=some (.string m.src):=Lib.cell_of_heap k2 2
   have c3:(w1.alloc (.cells #[.string wb,.int .i64 m.kind,.bool false,.bool false,.bool sf,.bool sp,.func (Fn.func fid) #[] #[]] 141)).cell? ⟨w.heap.size,3,none⟩=some (.string m.val):=Lib.cell_of_heap k2 3
   have kB:=heap_alloc_new w1 (.cells #[.string wb,.int .i64 m.kind,.bool false,.bool false,.bool sf,.bool sp,.func (Fn.func fid) #[] #[]] 141)
   have zB:(w1.alloc (.cells #[.string wb,.int .i64 m.kind,.bool false,.bool false,.bool sf,.bool sp,.func (Fn.func fid) #[] #[]] 141)).heap.size=w1.heap.size+1:=by simp
   have hz1:=b1.size
   have HT:=hide (uh HTP _ (below_next (uh HA) b2))
   have HB2:=hide b2
   have HK2:=hide k2
   have HKB:=hide kB
   have HZ1:=hide hz1
   have HZB:=hide zB
   clear HFV b1 hB kB b2 hz1 k2 HKA zB HTP
   go_wp2_with fail
   generalize (w1.alloc (.cells #[.string wb,.int .i64 m.kind,.bool false,.bool false,.bool sf,.bool sp,.func (Fn.func fid) #[] #[]] 141))=w2 at *
   generalize w1.heap.size=V0 at *
   refine (uh HT).mono ?_
   rintro e w3 ⟨pv,rfl,op,b3⟩
   obtain⟨pa,pg,pc,rfl,_,_⟩:=op.shape
   have zB:=uh HZB
   have zA:=uh HZA
   have hz1:=uh HZ1
   have k3:=(b3.block w.heap.size (by omega)).trans (uh HK2)
   have d2:w3.cell? ⟨w.heap.size,2,none⟩=some (.string m.src):=Lib.cell_of_heap k3 2
   have b23:=below_next (uh HB2) b3
   have HT2:=hide (uh HTS _ (below_next (uh HA) b23))
   have HB3:=hide b3
   have HK3:=hide k3
   have HKB3:=hide ((b3.block V0 (by omega)).trans (uh HKB))
   have HZ3:=hide b3.size
   have HB23:=hide b23
   clear HT op b3 k3 b23 HK2 HKB HB2 c1 c2 c3 zA zB hz1 HTS
   go_wp2_with fail
   refine (uh HT2).mono ?_
   rintro e w4 ⟨fv,rfl,of,b4⟩
   obtain⟨fa,fg,fc,rfl,_,_⟩:=of.shape
   have HB4:=hide (below_next (uh HA) (below_next (uh HB23) b4))
   clear HT2 of b4 HB3 HK3 HKB3 HB23 d2
   rcases hpq with hp | hq
   ·subst hp
    go_wp2
    go_ret2
    exact⟨rfl,uh HB4⟩
   ·subst hq
    cases zp with
    | true=>
     go_wp2
     go_ret2
     exact⟨rfl,uh HB4⟩
    | false=>
     go_wp2
     go_ret2
     exact⟨rfl,uh HB4⟩
  | true=>
   rw[hf] at HFV
   clear hf hsf
   go_enter Tryz.func123,Tryz.ntmps123
   go_wp2_with fail
   generalize (w.alloc (.cells #[.int .i64 m.kind,.string m.path,.string m.src,.string m.val] 59))=wA at *
   refine (uh HFV).mono ?_
   rintro e w1 ⟨rfl,b1⟩
   have hB:=alloc_b w1 (.cells #[.string wb,.int .i64 m.kind,.bool true,.bool false,.bool sf,.bool sp,.func (Fn.func fid) #[] #[]] 141)
   have b2:=below_next b1 hB
   have k2:=(b2.block w.heap.size (by have:=uh HZA; omega)).trans (uh HKA)
   have c1:(w1.alloc (.cells #[.string wb,.int .i64 m.kind,.bool true,.bool false,.bool sf,.bool sp,.func (Fn.func fid) #[] #[]] 141)).cell? ⟨w.heap.size,1,none⟩=some (.string m.path):=Lib.cell_of_heap k2 1
   have c2:(w1.alloc (.cells #[.string wb,.int .i64 m.kind,.bool true,.bool false,.bool sf,.bool sp,.func (Fn.func fid) #[] #[]] 141)).cell? ⟨w.heap.size,2,none⟩=some (.string m.src):=Lib.cell_of_heap k2 2
   have c3:(w1.alloc (.cells #[.string wb,.int .i64 m.kind,.bool true,.bool false,.bool sf,.bool sp,.func (Fn.func fid) #[] #[]] 141)).cell? ⟨w.heap.size,3,none⟩=some (.string m.val):=Lib.cell_of_heap k2 3
   have kB:=heap_alloc_new w1 (.cells #[.string wb,.int .i64 m.kind,.bool true,.bool false,.bool sf,.bool sp,.func (Fn.func fid) #[] #[]] 141)
   have zB:(w1.alloc (.cells #[.string wb,.int .i64 m.kind,.bool true,.bool false,.bool sf,.bool sp,.func (Fn.func fid) #[] #[]] 141)).heap.size=w1.heap.size+1:=by simp
   have hz1:=b1.size
   have HT:=hide (uh HTP _ (below_next (uh HA) b2))
   have HB2:=hide b2
   have HK2:=hide k2
   have HKB:=hide kB
   have HZ1:=hide hz1
   have HZB:=hide zB
   clear HFV b1 hB kB b2 hz1 k2 HKA zB HTP
   go_wp2_with fail
   generalize (w1.alloc (.cells #[.string wb,.int .i64 m.kind,.bool true,.bool false,.bool sf,.bool sp,.func (Fn.func fid) #[] #[]] 141))=w2 at *
   generalize w1.heap.size=V0 at *
   refine (uh HT).mono ?_
   rintro e w3 ⟨pv,rfl,op,b3⟩
   obtain⟨pa,pg,pc,rfl,_,_⟩:=op.shape
   have zB:=uh HZB
   have zA:=uh HZA
   have hz1:=uh HZ1
   have k3:=(b3.block w.heap.size (by omega)).trans (uh HK2)
   have d2:w3.cell? ⟨w.heap.size,2,none⟩=some (.string m.src):=Lib.cell_of_heap k3 2
   have b23:=below_next (uh HB2) b3
   have HT2:=hide (uh HTS _ (below_next (uh HA) b23))
   have HB3:=hide b3
   have HK3:=hide k3
   have HKB3:=hide ((b3.block V0 (by omega)).trans (uh HKB))
   have HZ3:=hide b3.size
   have HB23:=hide b23
   clear HT op b3 k3 b23 HK2 HKB HB2 c1 c2 c3 zA zB hz1 HTS
   go_wp2_with fail
   refine (uh HT2).mono ?_
   rintro e w4 ⟨fv,rfl,of,b4⟩
   obtain⟨fa,fg,fc,rfl,_,_⟩:=of.shape
   have HB4:=hide (below_next (uh HA) (below_next (uh HB23) b4))
   clear HT2 of b4 HB3 HK3 HKB3 HB23 d2
   rcases hpq with hp | hq
   ·subst hp
    go_wp2
    go_ret2
    exact⟨rfl,uh HB4⟩
   ·subst hq
    cases zp with
    | true=>
     go_wp2
     go_ret2
     exact⟨rfl,uh HB4⟩
    | false=>
     go_wp2
     go_ret2
     exact⟨rfl,uh HB4⟩
 | true=>
  rw[hv] at HFV
  clear hv hvn
  cases hf:hasF m.kind with
  | false=>
   have es:=hsf hf
   rw[hf] at HFV
   clear hf hsf
   go_enter Tryz.func123,Tryz.ntmps123
   go_wp2_with fail
   generalize (w.alloc (.cells #[.int .i64 m.kind,.string m.path,.string m.src,.string m.val] 59))=wA at *
   refine (uh HFV).mono ?_
   rintro e w1 ⟨rfl,b1⟩
   have hB:=alloc_b w1 (.cells #[.string wb,.int .i64 m.kind,.bool false,.bool true,.bool sf,.bool sp,.func (Fn.func fid) #[] #[]] 141)
   have b2:=below_next b1 hB
   have k2:=(b2.block w.heap.size (by have:=uh HZA; omega)).trans (uh HKA)
   have c1:(w1.alloc (.cells #[.string wb,.int .i64 m.kind,.bool false,.bool true,.bool sf,.bool sp,.func (Fn.func fid) #[] #[]] 141)).cell? ⟨w.heap.size,1,none⟩=some (.string m.path):=Lib.cell_of_heap k2 1
   have c2:(w1.alloc (.cells #[.string wb,.int .i64 m.kind,.bool false,.bool true,.bool sf,.bool sp,.func (Fn.func fid) #[] #[]] 141)).cell? ⟨w.heap.size,2,none⟩=some (.string m.src):=Lib.cell_of_heap k2 2
   have c3:(w1.alloc (.cells #[.string wb,.int .i64 m.kind,.bool false,.bool true,.bool sf,.bool sp,.func (Fn.func fid) #[] #[]] 141)).cell? ⟨w.heap.size,3,none⟩=some (.string m.val):=Lib.cell_of_heap k2 3
   have kB:=heap_alloc_new w1 (.cells #[.string wb,.int .i64 m.kind,.bool false,.bool true,.bool sf,.bool sp,.func (Fn.func fid) #[] #[]] 141)
   have zB:(w1.alloc (.cells #[.string wb,.int .i64 m.kind,.bool false,.bool true,.bool sf,.bool sp,.func (Fn.func fid) #[] #[]] 141)).heap.size=w1.heap.size+1:=by simp
   have hz1:=b1.size
   have HT:=hide (uh HTP _ (below_next (uh HA) b2))
   have HB2:=hide b2
   have HK2:=hide k2
   have HKB:=hide kB
   have HZ1:=hide hz1
   have HZB:=hide zB
   clear HFV b1 hB kB b2 hz1 k2 HKA zB HTP
   go_wp2_with fail
   generalize (w1.alloc (.cells #[.string wb,.int .i64 m.kind,.bool false,.bool true,.bool sf,.bool sp,.func (Fn.func fid) #[] #[]] 141))=w2 at *
   generalize w1.heap.size=V0 at *
   refine (uh HT).mono ?_
   rintro e w3 ⟨pv,rfl,op,b3⟩
   obtain⟨pa,pg,pc,rfl,_,_⟩:=op.shape
   have zB:=uh HZB
   have zA:=uh HZA
   have hz1:=uh HZ1
   have k3:=(b3.block w.heap.size (by omega)).trans (uh HK2)
   have d2:w3.cell? ⟨w.heap.size,2,none⟩=some (.string m.src):=Lib.cell_of_heap k3 2
   have b23:=below_next (uh HB2) b3
   have HT2:=hide (uh HTS _ (below_next (uh HA) b23))
   have HB3:=hide b3
   have HK3:=hide k3
   have HKB3:=hide ((b3.block V0 (by omega)).trans (uh HKB))
   have HZ3:=hide b3.size
   have HB23:=hide b23
   clear HT op b3 k3 b23 HK2 HKB HB2 c1 c2 c3 zA zB hz1 HTS
   go_wp2_with fail
   refine (uh HT2).mono ?_
   rintro e w4 ⟨fv,rfl,of,b4⟩
   obtain⟨fa,fg,fc,rfl,_,_⟩:=of.shape
   have HB4:=hide (below_next (uh HA) (below_next (uh HB23) b4))
   clear HT2 of b4 HB3 HK3 HKB3 HB23 d2
   rcases hpq with hp | hq
   ·subst hp
    go_wp2
    go_ret2
    exact⟨rfl,uh HB4⟩
   ·subst hq
    cases zp with
    | true=>
     go_wp2
     go_ret2
     exact⟨rfl,uh HB4⟩
    | false=>
     go_wp2
     go_ret2
     exact⟨rfl,uh HB4⟩
  | true=>
   rw[hf] at HFV
   clear hf hsf
   go_enter Tryz.func123,Tryz.ntmps123
   go_wp2_with fail
   generalize (w.alloc (.cells #[.int .i64 m.kind,.string m.path,.string m.src,.string m.val] 59))=wA at *
   refine (uh HFV).mono ?_
   rintro e w1 ⟨rfl,b1⟩
   have hB:=alloc_b w1 (.cells #[.string wb,.int .i64 m.kind,.bool true,.bool true,.bool sf,.bool sp,.func (Fn.func fid) #[] #[]] 141)
   have b2:=below_next b1 hB
   have k2:=(b2.block w.heap.size (by have:=uh HZA; omega)).trans (uh HKA)
   have c1:(w1.alloc (.cells #[.string wb,.int .i64 m.kind,.bool true,.bool true,.bool sf,.bool sp,.func (Fn.func fid) #[] #[]] 141)).cell? ⟨w.heap.size,1,none⟩=some (.string m.path):=Lib.cell_of_heap k2 1
   have c2:(w1.alloc (.cells #[.string wb,.int .i64 m.kind,.bool true,.bool true,.bool sf,.bool sp,.func (Fn.func fid) #[] #[]] 141)).cell? ⟨w.heap.size,2,none⟩=some (.string m.src):=Lib.cell_of_heap k2 2
   have c3:(w1.alloc (.cells #[.string wb,.int .i64 m.kind,.bool true,.bool true,.bool sf,.bool sp,.func (Fn.func fid) #[] #[]] 141)).cell? ⟨w.heap.size,3,none⟩=some (.string m.val):=Lib.cell_of_heap k2 3
   have kB:=heap_alloc_new w1 (.cells #[.string wb,.int .i64 m.kind,.bool true,.bool true,.bool sf,.bool sp,.func (Fn.func fid) #[] #[]] 141)
   have zB:(w1.alloc (.cells #[.string wb,.int .i64 m.kind,.bool true,.bool true,.bool sf,.bool sp,.func (Fn.func fid) #[] #[]] 141)).heap.size=w1.heap.size+1:=by simp
   have hz1:=b1.size
   have HT:=hide (uh HTP _ (below_next (uh HA) b2))
   have HB2:=hide b2
   have HK2:=hide k2
   have HKB:=hide kB
   have HZ1:=hide hz1
   have HZB:=hide zB
   clear HFV b1 hB kB b2 hz1 k2 HKA zB HTP
   go_wp2_with fail
   generalize (w1.alloc (.cells #[.string wb,.int .i64 m.kind,.bool true,.bool true,.bool sf,.bool sp,.func (Fn.func fid) #[] #[]] 141))=w2 at *
   generalize w1.heap.size=V0 at *
   refine (uh HT).mono ?_
   rintro e w3 ⟨pv,rfl,op,b3⟩
   obtain⟨pa,pg,pc,rfl,_,_⟩:=op.shape
   have zB:=uh HZB
   have zA:=uh HZA
   have hz1:=uh HZ1
   have k3:=(b3.block w.heap.size (by omega)).trans (uh HK2)
   have d2:w3.cell? ⟨w.heap.size,2,none⟩=some (.string m.src):=Lib.cell_of_heap k3 2
   have b23:=below_next (uh HB2) b3
   have HT2:=hide (uh HTS _ (below_next (uh HA) b23))
   have HB3:=hide b3
   have HK3:=hide k3
   have HKB3:=hide ((b3.block V0 (by omega)).trans (uh HKB))
   have HZ3:=hide b3.size
   have HB23:=hide b23
   clear HT op b3 k3 b23 HK2 HKB HB2 c1 c2 c3 zA zB hz1 HTS
   go_wp2_with fail
   refine (uh HT2).mono ?_
   rintro e w4 ⟨fv,rfl,of,b4⟩
   obtain⟨fa,fg,fc,rfl,_,_⟩:=of.shape
   have HB4:=hide (below_next (uh HA) (below_next (uh HB23) b4))
   clear HT2 of b4 HB3 HK3 HKB3 HB23 d2
   rcases hpq with hp | hq
   ·subst hp
    go_wp2
    go_ret2
    exact⟨rfl,uh HB4⟩
   ·subst hq
    cases zp with
    | true=>
     go_wp2
     go_ret2
     exact⟨rfl,uh HB4⟩
    | false=>
     go_wp2
     go_ret2
     exact⟨rfl,uh HB4⟩
theorem readOp_can (m:POp) (w:World) (k1:1≤m.kind) (k6:m.kind≤6) (hw:RdW w) (hz1:m.path.size≤1048576) (hz2:m.src.size≤1048576) (hz3:m.val.size≤1048576) (hsf:hasF m.kind=false→m.src.toList=[]) (hp:(ptoks m.path.data.toList).isSome=true) (hq:(ptoks m.src.data.toList).isSome=true) (hv:hasV m.kind=true) (hg:goodT m.val=false) :
  Calls Tryz.prog 123 #[.agg #[.int .i64 m.kind,.string m.path,.string m.src,.string m.val]] w (RNo w):=by
 have hA:=alloc_b w (opObj m)
 have kA:=heap_alloc_new w (opObj m)
 have zA:(w.alloc (opObj m)).heap.size=w.heap.size+1:=by simp
 have HFV:=hide (findVerb_yes w.heap.size m (w.alloc (opObj m)) kA k1 k6)
 obtain⟨fid,hfid⟩:=verbF_fid m.kind
 obtain⟨wb,hwb⟩ : ∃ wb,wordB m.kind=wb:=⟨_,rfl⟩
 obtain⟨sf,hsfq⟩ : ∃ sf,shF m.kind=sf:=⟨_,rfl⟩
 obtain⟨sp,hspq⟩ : ∃ sp,shP m.kind=sp:=⟨_,rfl⟩
 unfold verbV at HFV
 rw[hfid,hwb,hsfq,hspq] at HFV
 have HA:=hide hA
 have HKA:=hide kA
 have HZA:=hide zA
 unfold opObj at *
 clear hfid hwb hsfq hspq hA kA zA k1 k6
 have HTP:Hid (∀ wx,Below w.heap.size w wx→Calls Tryz.prog 117 #[.string m.path] wx fun e w'=>∃ v,e = .returned (.tuple #[v,.bool (ptoks m.path.data.toList).isSome])∧OT w' wx.heap.size v (tkOf m.path)∧Below wx.heap.size wx w'):=fun wx hx=>implToks_walk m.path wx (hw.up hx).ml hz1
 have HTS:Hid (∀ wx,Below w.heap.size w wx→Calls Tryz.prog 117 #[.string m.src] wx fun e w'=>∃ v,e = .returned (.tuple #[v,.bool (ptoks m.src.data.toList).isSome])∧OT w' wx.heap.size v (tkOf m.src)∧Below wx.heap.size wx w'):=fun wx hx=>implToks_walk m.src wx (hw.up hx).ml hz2
 rw[hp] at HTP
 rw[hq] at HTS
 have HRC:Hid (∀ wx,Below w.heap.size w wx→Calls Tryz.prog 158 #[.string m.val] wx fun e w'=>e = .returned (.tuple #[.nilIface,.bool false])∧Below wx.heap.size wx w'):=fun wx hx=>by
  have hwx:=hw.up hx
  refine (readCanon_walk m.val wx hwx.tab hwx.err hwx.pow (by omega)).mono ?_
  rintro e w' ⟨b,hb,_⟩
  exact⟨hb hg,b⟩
 rw[hv] at HFV
 clear hv hw hg hp hq
 cases hf:hasF m.kind with
 | false=>
  have es:=hsf hf
  rw[hf] at HFV
  clear hf hsf
  go_enter Tryz.func123,Tryz.ntmps123
  go_wp2_with fail
  generalize (w.alloc (.cells #[.int .i64 m.kind,.string m.path,.string m.src,.string m.val] 59))=wA at *
  refine (uh HFV).mono ?_
  rintro e w1 ⟨rfl,b1⟩
  have hB:=alloc_b w1 (.cells #[.string wb,.int .i64 m.kind,.bool false,.bool true,.bool sf,.bool sp,.func (Fn.func fid) #[] #[]] 141)
  have b2:=below_next b1 hB
  have k2:=(b2.block w.heap.size (by have:=uh HZA; omega)).trans (uh HKA)
  have c1:(w1.alloc (.cells #[.string wb,.int .i64 m.kind,.bool false,.bool true,.bool sf,.bool sp,.func (Fn.func fid) #[] #[]] 141)).cell? ⟨w.heap.size,1,none⟩=some (.string m.path):=Lib.cell_of_heap k2 1
  have c2:(w1.alloc (.cells #[.string wb,.int .i64 m.kind,.bool false,.bool true,.bool sf,.bool sp,.func (Fn.func fid) #[] #[]] 141)).cell? ⟨w.heap.size,2,none⟩=some (.string m.src):=Lib.cell_of_heap k2 2
  have c3:(w1.alloc (.cells #[.string wb,.int .i64 m.kind,.bool false,.bool true,.bool sf,.bool sp,.func (Fn.func fid) #[] #[]] 141)).cell? ⟨w.heap.size,3,none⟩=some (.string m.val):=Lib.cell_of_heap k2 3
  have kB:=heap_alloc_new w1 (.cells #[.string wb,.int .i64 m.kind,.bool false,.bool true,.bool sf,.bool sp,.func (Fn.func fid) #[] #[]] 141)
  have zB:(w1.alloc (.cells #[.string wb,.int .i64 m.kind,.bool false,.bool true,.bool sf,.bool sp,.func (Fn.func fid) #[] #[]] 141)).heap.size=w1.heap.size+1:=by simp
  have hz1:=b1.size
  have HT:=hide (uh HTP _ (below_next (uh HA) b2))
  have HB2:=hide b2
  have HK2:=hide k2
  have HKB:=hide kB
  have HZ1:=hide hz1
  have HZB:=hide zB
  clear HFV b1 hB kB b2 hz1 k2 HKA zB HTP
  go_wp2_with fail
  generalize (w1.alloc (.cells #[.string wb,.int .i64 m.kind,.bool false,.bool true,.bool sf,.bool sp,.func (Fn.func fid) #[] #[]] 141))=w2 at *
  generalize w1.heap.size=V0 at *
  refine (uh HT).mono ?_
  rintro e w3 ⟨pv,rfl,op,b3⟩
  obtain⟨pa,pg,pc,rfl,_,_⟩:=op.shape
  have zB:=uh HZB
  have zA:=uh HZA
  have hz1:=uh HZ1
  have k3:=(b3.block w.heap.size (by omega)).trans (uh HK2)
  have d2:w3.cell? ⟨w.heap.size,2,none⟩=some (.string m.src):=Lib.cell_of_heap k3 2
  have b23:=below_next (uh HB2) b3
  have HT2:=hide (uh HTS _ (below_next (uh HA) b23))
  have HB3:=hide b3
  have HK3:=hide k3
  have HKB3:=hide ((b3.block V0 (by omega)).trans (uh HKB))
  have HZ3:=hide b3.size
  have HB23:=hide b23
  clear HT op b3 k3 b23 HK2 HKB HB2 c1 c2 c3 zA zB hz1 HTS
  go_wp2_with fail
  refine (uh HT2).mono ?_
  rintro e w4 ⟨fv,rfl,of,b4⟩
  obtain⟨fa,fg,fc,rfl,_,_⟩:=of.shape
  have zB:=uh HZB
  have zA:=uh HZA
  have hz1:=uh HZ1
  have hz3:=uh HZ3
  have kv:=(b4.block V0 (by omega)).trans (uh HKB3)
  have v0:w4.cell? ⟨V0,0,none⟩=some (.string wb):=Lib.cell_of_heap kv 0
  have v1:w4.cell? ⟨V0,1,none⟩=some (.int .i64 m.kind):=Lib.cell_of_heap kv 1
  have v2:w4.cell? ⟨V0,2,none⟩=some (.bool false):=Lib.cell_of_heap kv 2
  have v3:w4.cell? ⟨V0,3,none⟩=some (.bool true):=Lib.cell_of_heap kv 3
  have v4:w4.cell? ⟨V0,4,none⟩=some (.bool sf):=Lib.cell_of_heap kv 4
  have v5:w4.cell? ⟨V0,5,none⟩=some (.bool sp):=Lib.cell_of_heap kv 5
  have v6:w4.cell? ⟨V0,6,none⟩=some (.func (Fn.func fid) #[] #[]):=Lib.cell_of_heap kv 6
  have hlt4:V0 < w4.heap.size:=(Array.getElem?_eq_some_iff.1 kv).1
  have k4:=(b4.block w.heap.size (by omega)).trans (uh HK3)
  have hC:=alloc_b w4 (.cells #[.string wb,.int .i64 m.kind,.bool false,.bool true,.bool sf,.bool sp,.func (Fn.func fid) #[] #[],.slice pa (tkOf m.path).length pc,.slice fa (tkOf m.src).length fc,.nilIface] 155)
  have kC:=heap_alloc_new w4 (.cells #[.string wb,.int .i64 m.kind,.bool false,.bool true,.bool sf,.bool sp,.func (Fn.func fid) #[] #[],.slice pa (tkOf m.path).length pc,.slice fa (tkOf m.src).length fc,.nilIface] 155)
  have zC:(w4.alloc (.cells #[.string wb,.int .i64 m.kind,.bool false,.bool true,.bool sf,.bool sp,.func (Fn.func fid) #[] #[],.slice pa (tkOf m.path).length pc,.slice fa (tkOf m.src).length fc,.nilIface] 155)).heap.size=w4.heap.size+1:=by simp
  have e3:(w4.alloc (.cells #[.string wb,.int .i64 m.kind,.bool false,.bool true,.bool sf,.bool sp,.func (Fn.func fid) #[] #[],.slice pa (tkOf m.path).length pc,.slice fa (tkOf m.src).length fc,.nilIface] 155)).cell? ⟨V0,3,none⟩=some (.bool true):=Lib.cell_of_heap ((hC.block V0 hlt4).trans kv) 3
  have hz4:=b4.size
  have f3:(w4.alloc (.cells #[.string wb,.int .i64 m.kind,.bool false,.bool true,.bool sf,.bool sp,.func (Fn.func fid) #[] #[],.slice pa (tkOf m.path).length pc,.slice fa (tkOf m.src).length fc,.nilIface] 155)).cell? ⟨w.heap.size,3,none⟩=some (.string m.val):=Lib.cell_of_heap ((hC.block w.heap.size (by omega)).trans k4) 3
  have b25:=below_next (below_next (uh HB23) b4) hC
  have HR:=hide (uh HRC _ (below_next (uh HA) b25))
  have HB5:=hide (below_next (uh HA) b25)
  have HKC:=hide kC
  have HZC:=hide zC
  have HZ4:=hide hz4
  clear HT2 of b4 HB3 HK3 HKB3 HB23 d2 zA zB hz1 hz3 kv k4 hC kC zC b25 HRC hlt4 hz4
  go_wp2_with fail
  generalize (w4.alloc (.cells #[.string wb,.int .i64 m.kind,.bool false,.bool true,.bool sf,.bool sp,.func (Fn.func fid) #[] #[],.slice pa (tkOf m.path).length pc,.slice fa (tkOf m.src).length fc,.nilIface] 155))=w5 at *
  generalize w4.heap.size=G0 at *
  refine (uh HR).mono ?_
  rintro e w6 ⟨rfl,b6⟩
  have zC:=uh HZC
  have k6:=(b6.block G0 (by omega)).trans (uh HKC)
  have g9:w6.cell? ⟨G0,9,none⟩=some .nilIface:=Lib.cell_of_heap k6 9
  have f9:=Lib.frozen_of_heap k6 9
  have HB6:=hide b6
  clear HR b6 k6 zC HKC
  go_wp2
  go_ret2
  have zB:=uh HZB
  have zA:=uh HZA
  have hz1:=uh HZ1
  have hz3:=uh HZ3
  have hz4:=uh HZ4
  have zC:=uh HZC
  have hz5:=(uh HB5).size
  refine⟨rfl,((uh HB5).trans ((uh HB6).mono (by omega))).setCell (p:=⟨G0,9,none⟩) (by show w.heap.size≤G0; omega) _⟩
 | true=>
  rw[hf] at HFV
  clear hf hsf
  go_enter Tryz.func123,Tryz.ntmps123
  go_wp2_with fail
  generalize (w.alloc (.cells #[.int .i64 m.kind,.string m.path,.string m.src,.string m.val] 59))=wA at *
  refine (uh HFV).mono ?_
  rintro e w1 ⟨rfl,b1⟩
  have hB:=alloc_b w1 (.cells #[.string wb,.int .i64 m.kind,.bool true,.bool true,.bool sf,.bool sp,.func (Fn.func fid) #[] #[]] 141)
  have b2:=below_next b1 hB
  have k2:=(b2.block w.heap.size (by have:=uh HZA; omega)).trans (uh HKA)
  have c1:(w1.alloc (.cells #[.string wb,.int .i64 m.kind,.bool true,.bool true,.bool sf,.bool sp,.func (Fn.func fid) #[] #[]] 141)).cell? ⟨w.heap.size,1,none⟩=some (.string m.path):=Lib.cell_of_heap k2 1
  have c2:(w1.alloc (.cells #[.string wb,.int .i64 m.kind,.bool true,.bool true,.bool sf,.bool sp,.func (Fn.func fid) #[] #[]] 141)).cell? ⟨w.heap.size,2,none⟩=some (.string m.src):=Lib.cell_of_heap k2 2
  have c3:(w1.alloc (.cells #[.string wb,.int .i64 m.kind,.bool true,.bool true,.bool sf,.bool sp,.func (Fn.func fid) #[] #[]] 141)).cell? ⟨w.heap.size,3,none⟩=some (.string m.val):=Lib.cell_of_heap k2 3
  have kB:=heap_alloc_new w1 (.cells #[.string wb,.int .i64 m.kind,.bool true,.bool true,.bool sf,.bool sp,.func (Fn.func fid) #[] #[]] 141)
  have zB:(w1.alloc (.cells #[.string wb,.int .i64 m.kind,.bool true,.bool true,.bool sf,.bool sp,.func (Fn.func fid) #[] #[]] 141)).heap.size=w1.heap.size+1:=by simp
  have hz1:=b1.size
  have HT:=hide (uh HTP _ (below_next (uh HA) b2))
  have HB2:=hide b2
  have HK2:=hide k2
  have HKB:=hide kB
  have HZ1:=hide hz1
  have HZB:=hide zB
  clear HFV b1 hB kB b2 hz1 k2 HKA zB HTP
  go_wp2_with fail
  generalize (w1.alloc (.cells #[.string wb,.int .i64 m.kind,.bool true,.bool true,.bool sf,.bool sp,.func (Fn.func fid) #[] #[]] 141))=w2 at *
  generalize w1.heap.size=V0 at *
  refine (uh HT).mono ?_
  rintro e w3 ⟨pv,rfl,op,b3⟩
  obtain⟨pa,pg,pc,rfl,_,_⟩:=op.shape
  have zB:=uh HZB
  have zA:=uh HZA
  have hz1:=uh HZ1
  have k3:=(b3.block w.heap.size (by omega)).trans (uh HK2)
  have d2:w3.cell? ⟨w.heap.size,2,none⟩=some (.string m.src):=Lib.cell_of_heap k3 2
  have b23:=below_next (uh HB2) b3
  have HT2:=hide (uh HTS _ (below_next (uh HA) b23))
  have HB3:=hide b3
  have HK3:=hide k3
  have HKB3:=hide ((b3.block V0 (by omega)).trans (uh HKB))
  have HZ3:=hide b3.size
  have HB23:=hide b23
  clear HT op b3 k3 b23 HK2 HKB HB2 c1 c2 c3 zA zB hz1 HTS
  go_wp2_with fail
  refine (uh HT2).mono ?_
  rintro e w4 ⟨fv,rfl,of,b4⟩
  obtain⟨fa,fg,fc,rfl,_,_⟩:=of.shape
  have zB:=uh HZB
  have zA:=uh HZA
  have hz1:=uh HZ1
  have hz3:=uh HZ3
  have kv:=(b4.block V0 (by omega)).trans (uh HKB3)
  have v0:w4.cell? ⟨V0,0,none⟩=some (.string wb):=Lib.cell_of_heap kv 0
  have v1:w4.cell? ⟨V0,1,none⟩=some (.int .i64 m.kind):=Lib.cell_of_heap kv 1
  have v2:w4.cell? ⟨V0,2,none⟩=some (.bool true):=Lib.cell_of_heap kv 2
  have v3:w4.cell? ⟨V0,3,none⟩=some (.bool true):=Lib.cell_of_heap kv 3
  have v4:w4.cell? ⟨V0,4,none⟩=some (.bool sf):=Lib.cell_of_heap kv 4
  have v5:w4.cell? ⟨V0,5,none⟩=some (.bool sp):=Lib.cell_of_heap kv 5
  have v6:w4.cell? ⟨V0,6,none⟩=some (.func (Fn.func fid) #[] #[]):=Lib.cell_of_heap kv 6
  have hlt4:V0 < w4.heap.size:=(Array.getElem?_eq_some_iff.1 kv).1
  have k4:=(b4.block w.heap.size (by omega)).trans (uh HK3)
  have hC:=alloc_b w4 (.cells #[.string wb,.int .i64 m.kind,.bool true,.bool true,.bool sf,.bool sp,.func (Fn.func fid) #[] #[],.slice pa (tkOf m.path).length pc,.slice fa (tkOf m.src).length fc,.nilIface] 155)
  have kC:=heap_alloc_new w4 (.cells #[.string wb,.int .i64 m.kind,.bool true,.bool true,.bool sf,.bool sp,.func (Fn.func fid) #[] #[],.slice pa (tkOf m.path).length pc,.slice fa (tkOf m.src).length fc,.nilIface] 155)
  have zC:(w4.alloc (.cells #[.string wb,.int .i64 m.kind,.bool true,.bool true,.bool sf,.bool sp,.func (Fn.func fid) #[] #[],.slice pa (tkOf m.path).length pc,.slice fa (tkOf m.src).length fc,.nilIface] 155)).heap.size=w4.heap.size+1:=by simp
  have e3:(w4.alloc (.cells #[.string wb,.int .i64 m.kind,.bool true,.bool true,.bool sf,.bool sp,.func (Fn.func fid) #[] #[],.slice pa (tkOf m.path).length pc,.slice fa (tkOf m.src).length fc,.nilIface] 155)).cell? ⟨V0,3,none⟩=some (.bool true):=Lib.cell_of_heap ((hC.block V0 hlt4).trans kv) 3
  have hz4:=b4.size
  have f3:(w4.alloc (.cells #[.string wb,.int .i64 m.kind,.bool true,.bool true,.bool sf,.bool sp,.func (Fn.func fid) #[] #[],.slice pa (tkOf m.path).length pc,.slice fa (tkOf m.src).length fc,.nilIface] 155)).cell? ⟨w.heap.size,3,none⟩=some (.string m.val):=Lib.cell_of_heap ((hC.block w.heap.size (by omega)).trans k4) 3
  have b25:=below_next (below_next (uh HB23) b4) hC
  have HR:=hide (uh HRC _ (below_next (uh HA) b25))
  have HB5:=hide (below_next (uh HA) b25)
  have HKC:=hide kC
  have HZC:=hide zC
  have HZ4:=hide hz4
  clear HT2 of b4 HB3 HK3 HKB3 HB23 d2 zA zB hz1 hz3 kv k4 hC kC zC b25 HRC hlt4 hz4
  go_wp2_with fail
  generalize (w4.alloc (.cells #[.string wb,.int .i64 m.kind,.bool true,.bool true,.bool sf,.bool sp,.func (Fn.func fid) #[] #[],.slice pa (tkOf m.path).length pc,.slice fa (tkOf m.src).length fc,.nilIface] 155))=w5 at *
  generalize w4.heap.size=G0 at *
  refine (uh HR).mono ?_
  rintro e w6 ⟨rfl,b6⟩
  have zC:=uh HZC
  have k6:=(b6.block G0 (by omega)).trans (uh HKC)
  have g9:w6.cell? ⟨G0,9,none⟩=some .nilIface:=Lib.cell_of_heap k6 9
  have f9:=Lib.frozen_of_heap k6 9
  have HB6:=hide b6
  clear HR b6 k6 zC HKC
  go_wp2
  go_ret2
  have zB:=uh HZB
  have zA:=uh HZA
  have hz1:=uh HZ1
  have hz3:=uh HZ3
  have hz4:=uh HZ4
  have zC:=uh HZC
  have hz5:=(uh HB5).size
  refine⟨rfl,((uh HB5).trans ((uh HB6).mono (by omega))).setCell (p:=⟨G0,9,none⟩) (by show w.heap.size≤G0; omega) _⟩
theorem readOp_bad (m:POp) (w:World) (h:opOk m=false) (hw:RdW w) (hz1:m.path.size≤1048576) (hz2:m.src.size≤1048576) (hz3:m.val.size≤1048576) :
  Calls Tryz.prog 123 #[.agg #[.int .i64 m.kind,.string m.path,.string m.src,.string m.val]] w (RNo w):=by
 by_cases hk:1≤m.kind∧m.kind≤6
 ·by_cases hs:hasF m.kind=false∧¬ m.src.toList=[]
  ·exact readOp_src m w hk.1 hk.2 hs.1 hs.2
  ·have hsf:hasF m.kind=false→m.src.toList=[]:=fun h1=>Classical.byContradiction fun h2=>hs ⟨h1,h2⟩
   by_cases hv:hasV m.kind=false∧¬ m.val.toList=[]
   ·exact readOp_val m w hk.1 hk.2 hsf hv.1 hv.2
   ·have hvn:hasV m.kind=false→m.val.toList=[]:=fun h1=>Classical.byContradiction fun h2=>hv ⟨h1,h2⟩
    by_cases hpq:(ptoks m.path.data.toList).isSome=false∨(ptoks m.src.data.toList).isSome=false
    ·exact readOp_tok m w hk.1 hk.2 hw hz1 hz2 hsf hvn hpq
    ·rcases opOk_not h with h | h | h | h | h
     ·exact absurd hk h
     ·exact absurd h hs
     ·exact absurd h hv
     ·exact absurd h hpq
     ·have hp:(ptoks m.path.data.toList).isSome=true:=by cases hc:(ptoks m.path.data.toList).isSome <;> simp_all
      have hq:(ptoks m.src.data.toList).isSome=true:=by cases hc:(ptoks m.src.data.toList).isSome <;> simp_all
      exact readOp_can m w hk.1 hk.2 hw hz1 hz2 hz3 hsf hp hq h.1 h.2
 ·exact readOp_kind m w hk
structure OpQ where
 g:Nat
 pv:Value
 fv:Value
 vv:Value
 v:JV
structure OpS (w:World) (S:Nat→Prop) (m:POp) (q:OpQ) : Prop where
 blk:w.heap[q.g]?=some (opB m.kind q.pv q.fv q.vv)
 sg:S q.g
 path:OT w 0 q.pv (tkOf m.path)
 sp:∀ b,q.pv.ownBlock=some b→S b
 src:OT w 0 q.fv (tkOf m.src)
 ss:∀ b,q.fv.ownBlock=some b→S b
 val:hasV m.kind=true→readR m.val = .inr q.v∧strOf (ct q.v)=m.val∧∃ t p,q.vv = .iface t p∧Rep w S q.v q.vv
theorem own_keepb {w w':World} {e size n:Nat} {v:Value} {xs:List Value} (h:w.ownsRow 0 e size v n xs) (hk:∀ b,v.ownBlock=some b→w'.heap[b]?=w.heap[b]?) : w'.ownsRow 0 e size v n xs:=by
 refine⟨h.1,?_⟩
 rcases h.2 with h0 | ⟨g,cap,cur,hv,hB,hg,r⟩
 ·exact .inl h0
 ·exact .inr ⟨g,cap,cur,hv,hB,(hk g (by rw[hv]; rfl)).trans hg,r⟩
theorem OpS.keep {w w':World} {S S':Nat→Prop} {m:POp} {q:OpQ} (h:OpS w S m q) (hk:∀ k,S k→w'.heap[k]?=w.heap[k]?) (hS:∀ k,S k→S' k) : OpS w' S' m q:=
 ⟨(hk _ h.sg).trans h.blk,hS _ h.sg,own_keepb h.path fun b hb=>hk b (h.sp b hb),fun b hb=>hS b (h.sp b hb),own_keepb h.src fun b hb=>hk b (h.ss b hb),fun b hb=>hS b (h.ss b hb),
  fun hv=>by obtain⟨h1,h2,t,p,h3,h4⟩:=h.val hv; exact⟨h1,h2,t,p,h3,Rep.keep hk hS _ _ h4⟩⟩
theorem OpAt.toS {w:World} {B:Nat} {m:POp} {g:Nat} {pv fv vv:Value} {v:JV} (h:OpAt w B m g pv fv vv v) : OpS w (fun k=>B≤k∧k < w.heap.size) m ⟨g,pv,fv,vv,v⟩:=
 ⟨h.blk,⟨h.ge,(Array.getElem?_eq_some_iff.1 h.blk).1⟩,own_mono h.path (Nat.zero_le _),fun b hb=>h.path.lt b hb,own_mono h.src (Nat.zero_le _),fun b hb=>h.src.lt b hb,h.val⟩
def ptrV (q:OpQ) : Value:=.pointer (some ⟨q.g,0,none⟩)
structure OpsL (w:World) (B:Nat) (S:Nat→Prop) (lv:Value) (ms:List POp) (qs:List OpQ) : Prop where
 len:qs.length=ms.length
 row:w.ownsRow B 120 1 lv qs.length (qs.map ptrV)
 ops:∀ (j:Nat) m q,ms[j]?=some m→qs[j]?=some q→OpS w S m q
 off:∀ k,S k→lv.ownBlock≠some k
def SOps (w0:Nat) (w:World) (lv:Value) (k:Nat) : Prop:=w0≤k∧k < w.heap.size∧lv.ownBlock≠some k
theorem OpsL.snoc {wr w2 w3 w4:World} {B Wb:Nat} {lv lv':Value} {ms:List POp} {qs:List OpQ} {m:POp} {q:OpQ} (hL:OpsL wr B (SOps B wr lv) lv ms qs) (hb2:Below wr.heap.size wr w2) (hat:OpAt w2 Wb m q.g q.pv q.fv q.vv q.v) (hW:wr.heap.size≤Wb) (hB:B≤wr.heap.size)
  (hb3:Below w2.heap.size w2 w3) (hrow:w4.ownsRow B 120 1 lv' (qs.length+1) (qs.map ptrV++[ptrV q])) (hg:w3.grownBy w4 lv.ownBlock) (hwh:lv'.ownBlock=lv.ownBlock∨lv'.ownBlock=some w3.heap.size) :
  OpsL w4 B (SOps B w4 lv') lv' (ms++[m]) (qs++[q]):=by
 have z2:=hb2.size
 have z3:=hb3.size
 have z4:=hg.size
 have hkeep:∀ k,k < w3.heap.size→lv.ownBlock≠some k→w4.heap[k]?=w3.heap[k]?:=fun k h1 h2=>hg.block k h1 (fun e=>h2 e.symm)
 have hsub:∀ k,B≤k→k < w3.heap.size→lv.ownBlock≠some k→SOps B w4 lv' k:=fun k h1 h2 h3=>⟨h1,by omega,fun e=>by
  rcases hwh with h | h
  ·exact h3 (h ▸ e)
  ·rw[h] at e; injection e with e; omega⟩
 refine⟨by simp[hL.len],by simpa using hrow,fun j m' q' hm hq=>?_,fun k hk=>hk.2.2⟩
 by_cases hj:j < ms.length
 ·rw[List.getElem?_append_left hj] at hm
  rw[List.getElem?_append_left (by rw[hL.len]; exact hj)] at hq
  refine (hL.ops j m' q' hm hq).keep (fun k hk=>?_) (fun k hk=>hsub k hk.1 (by have:=hk.2.1; omega) hk.2.2)
  have:=hk.2.1
  rw[hkeep k (by omega) hk.2.2,hb3.block k (by omega),hb2.block k (by omega)]
 ·have hjl:=(List.getElem?_eq_some_iff.1 hm).1
  rw[List.length_append,List.length_singleton] at hjl
  obtain rfl:j=ms.length:=by omega
  rw[List.getElem?_append_right (Nat.le_refl _)] at hm
  rw[List.getElem?_append_right (by rw[hL.len]; exact Nat.le_refl _),hL.len] at hq
  simp at hm hq
  subst hm; subst hq
  have hoff:∀ k,Wb≤k→lv.ownBlock≠some k:=fun k h1 e=>by
   have:=(hL.row.lt k e).2
   omega
  refine hat.toS.keep (fun k hk=>?_) (fun k hk=>hsub k (by omega) (by omega) (hoff k hk.1))
  rw[hkeep k (by omega) (hoff k hk.1),hb3.block k hk.2]
theorem infoOpP:(Tryz.prog.info? 120).map (fun i=>(i.zero,i.size,i.bytes))=some (some (.pointer none),1,8):=by kernel_rfl
def FltAt (w:World) (c:Int) (ev:Value) : Prop:=∃ fb,ev = .iface 156 (.pointer (some ⟨fb,0,none⟩))∧w.heap[fb]?=some (.cells #[.int .i64 c] 158 (0,0))
theorem FltAt.next {w w':World} {c:Int} {ev:Value} (h:FltAt w c ev) (hb:Below w.heap.size w w') : FltAt w' c ev:=by
 obtain⟨fb,h1,h2⟩:=h
 exact⟨fb,h1,(hb.block fb (Array.getElem?_eq_some_iff.1 h2).1).trans h2⟩
def OpErr (w:World) (i c:Int) (ev:Value) : Prop:=∃ eb fv,ev = .iface 159 (.pointer (some ⟨eb,0,none⟩))∧w.heap[eb]?=some (.cells #[.int .i64 i,fv] 161 (0,0))∧FltAt w c fv
theorem opErr_new (w:World) (i c:Int) : OpErr ((w.alloc (.cells #[.int .i64 c] 158)).alloc (.cells #[.int .i64 i,.iface 156 (.pointer (some ⟨w.heap.size,0,none⟩))] 161)) i c (.iface 159 (.pointer (some ⟨w.heap.size+1,0,none⟩))):=by
 have z:(w.alloc (.cells #[.int .i64 c] 158)).heap.size=w.heap.size+1:=by simp
 refine⟨w.heap.size+1,_,rfl,?_,w.heap.size,rfl,?_⟩
 ·have:=heap_alloc_new (w.alloc (.cells #[.int .i64 c] 158)) (.cells #[.int .i64 i,.iface 156 (.pointer (some ⟨w.heap.size,0,none⟩))] 161)
  rwa [z] at this
 ·exact ((alloc_b _ _).block w.heap.size (by omega)).trans (heap_alloc_new w _)
def ROsE (ms:List POp) (w:World) (e:Ending) (w':World) : Prop:=Below w.heap.size w w' ∧
 (0≤badI ms→∃ t p,e = .returned (.tuple #[.slice none 0 0,.iface t p])∧OpErr w' (badI ms) 2 (.iface t p)) ∧
 (badI ms < 0→∃ lv qs,e = .returned (.tuple #[lv,.nilIface])∧OpsL w' w.heap.size (SOps w.heap.size w' lv) lv ms qs)
theorem readOps_walkE (v:Value) (ms:List POp) (bl:List Nat) (w:World) (h:ORow opE w v ms bl) (hs:szOps ms≤1048576) (hw:RdW w) :
  Calls Tryz.prog 71 #[v] w (ROsE ms w):=by
 have hin:=opsIn hs
 obtain⟨xa,xc,rfl,h1,hxa⟩:=h.form
 have H:=hide h
 have HXA:=hide hxa
 have HIN:=hide hin
 have hln:ms.length≤1048576:=by unfold szOps at hs; omega
 clear h h1 hxa hs hin
 by_cases h100:100 < ms.length
 ·have hb:badI ms=100:=by unfold badI; rw[if_pos h100]
  have HB:=hide hb
  clear hb
  go_enter Tryz.func71,Tryz.ntmps71
  go_wp2
  go_ret2
  exact⟨below_next (alloc_b w _) (alloc_b _ _),fun _=>⟨_,_,rfl,by rw[uh HB]; exact opErr_new w 100 2⟩,fun h=>by rw[uh HB] at h; omega⟩
 ·have t100:¬ (100:Int) < (ms.length:Int):=by omega
  obtain⟨i0,hi,hz0,hz1,hz2⟩:=info_parts infoOpP
  go_enter Tryz.func71,Tryz.ntmps71
  go_wp2_with (at_make; refine wpList_make_own _ rfl _ _ 114 rfl w.heap.size 120 i0 (.pointer none) 1 Tryz.underlying114 hi hz0 hz1 .i64 .i64 _ ms.length rfl rfl rfl (by rw[hz2]; omega) (by unfold maxLen; omega) (Nat.le_refl _) ?_)
  intro w1 hown1 hgrow1
  have hb1:Below w.heap.size w w1:=(Below.refl _ _).grown hgrow1 (Nat.le_refl _) (by intro k hk; cases hk)
  have HB1:=hide hb1
  have HO1:=hide hown1
  clear hb1 hown1 hgrow1
  go_wp2
  go_loopw [4,23] (fun lv i wr=>∃ (k:Nat) (qs:List OpQ),k≤ms.length∧i = .int .i64 k∧Below w.heap.size w wr∧OpsL wr w.heap.size (SOps w.heap.size wr lv) lv (ms.take k) qs∧∀ j (h:j < ms.length),j < k→opOk ms[j]=true) (fun _ i _=>ms.length - (intOf i).toNat)
  case atStart=>exact⟨0,[],Nat.zero_le _,rfl,uh HB1,⟨by simp,uh HO1,fun j m q hm _=>by simp at hm,fun k hk=>hk.2.2⟩,fun j h hj=>by omega⟩
  case round=>
   obtain⟨k,qs,hk,rfl,hb,hL,hgd⟩:=hrel
   have hlen:qs.length=k:=by rw[hL.len,List.length_take]; omega
   obtain⟨la,lc,rfl,hlf⟩ : ∃ la lc,u4 = .slice la k lc∧True:=by
    rcases hL.row.2 with ⟨hv,hn⟩ | ⟨g,cap,cur,hv,_⟩
    ·exact⟨none,0,by rw[hv,← hlen,hn],trivial⟩
    ·exact⟨some ⟨g,0,none⟩,cap,by rw[hv,hlen],trivial⟩
   by_cases hlt:k < ms.length
   ·obtain⟨g,rfl⟩:=uh HXA (by omega)
    obtain⟨vs,ib,hE,hc,_⟩:=((uh H).below hb).at (List.getElem?_eq_getElem hlt)
    obtain⟨rfl,_⟩:=hE
    have c0:wr.cell? ⟨g,k*4,none⟩=some (.int .i64 ms[k].kind):=(hc 0 _ rfl).1
    have c1:wr.cell? ⟨g,k*4+1,none⟩=some (.string ms[k].path):=(hc 1 _ rfl).1
    have c2:wr.cell? ⟨g,k*4+2,none⟩=some (.string ms[k].src):=(hc 2 _ rfl).1
    have c3:wr.cell? ⟨g,k*4+3,none⟩=some (.string ms[k].val):=(hc 3 _ rfl).1
    have HL:=hide hL
    have HGD:=hide hgd
    have HBR:=hide hb
    clear hc hL hgd hb hlf
    have hA:=alloc_b wr (.cells #[.int .i64 ms[k].kind,.string ms[k].path,.string ms[k].src,.string ms[k].val] 59)
    have zA:(wr.alloc (.cells #[.int .i64 ms[k].kind,.string ms[k].path,.string ms[k].src,.string ms[k].val] 59)).heap.size=wr.heap.size+1:=by simp
    obtain⟨i1,i2,i3⟩:=uh HIN ms[k] (List.getElem_mem hlt)
    have hwA:=hw.up (below_next (uh HBR) hA)
    have HA:=hide hA
    have HZA:=hide zA
    cases hok:opOk ms[k] with
    | false=>
     have HM:=hide (readOp_bad ms[k] _ hok hwA i1 i2 i3)
     have HBAD:Hid (badI ms=(k:Int)):=badI_some (by omega) hlt hok (uh HGD)
     clear hok hwA hA zA i1 i2 i3
     go_wp2_with fail
     generalize (wr.alloc (.cells #[.int .i64 ms[k].kind,.string ms[k].path,.string ms[k].src,.string ms[k].val] 59))=wA at *
     refine (uh HM).mono ?_
     rintro e w2 ⟨rfl,b2⟩
     have HB2:=hide (below_next (below_next (uh HBR) (uh HA)) b2)
     clear HM b2
     go_wp2
     go_ret2
     exact⟨below_next (below_next (uh HB2) (alloc_b _ _)) (alloc_b _ _),fun _=>⟨_,_,rfl,by rw[uh HBAD]; exact opErr_new _ _ 2⟩,fun h=>by rw[uh HBAD] at h; omega⟩
    | true=>
     have HM:=hide (readOp_good ms[k] _ hok hwA i1 i2 i3)
     have HGD2:Hid (∀ j (h:j < ms.length),j < k+1→opOk ms[j]=true):=fun j h hj=>by
      by_cases e:j=k
      ·subst e; exact hok
      ·exact uh HGD j h (by omega)
     clear hok hwA hA zA i1 i2 i3
     go_wp2_with fail
     generalize (wr.alloc (.cells #[.int .i64 ms[k].kind,.string ms[k].path,.string ms[k].src,.string ms[k].val] 59))=wA at *
     refine (uh HM).mono ?_
     rintro e w2 ⟨gq,pv,fv,vv,v,rfl,hat,b2⟩
     have b02:=below_next (uh HA) b2
     have hA3:=alloc_b w2 (.cells #[.pointer (some ⟨gq,0,none⟩)] 120)
     have k3:=heap_alloc_new w2 (.cells #[.pointer (some ⟨gq,0,none⟩)] 120)
     have z02:=b02.size
     have z3:(w2.alloc (.cells #[.pointer (some ⟨gq,0,none⟩)] 120)).heap.size=w2.heap.size+1:=by simp
     have hwr:=(uh HBR).size
     have row3:=own_below (own_below (uh HL).row b02) hA3
     rw[hlen] at row3
     have HAT:=hide hat
     have HB02:=hide b02
     have HA3:=hide hA3
     have HZ3:=hide z3
     have cx:(w2.alloc (.cells #[.pointer (some ⟨gq,0,none⟩)] 120)).cell? ⟨w2.heap.size,0,none⟩=some (.pointer (some ⟨gq,0,none⟩)):=Lib.cell_of_heap k3 0
     have HR3:=hide row3
     have HCX:=hide cx
     clear HM hat b2 b02 hA3 k3 z3 row3 cx
     go_wp2_with (at_builtin; refine wpList_append_one Tryz.underlying114 infoOpP rfl (by decide) rfl (.tmp 42) (.tmp 44) rfl (B:=w.heap.size) rfl (uh HR3) (y:=.pointer (some ⟨gq,0,none⟩)) rfl rfl (uh HCX) (by have:=uh HZ3; omega) (by omega) ?_)
     intro lv' w4 hrow4 hg4 hwh4
     obtain⟨la',lc',rfl⟩ : ∃ la lc,lv' = .slice la (k+1) lc:=by
      rcases hrow4.2 with ⟨_,hn⟩ | ⟨g,cap,cur,hv,_⟩
      ·omega
      ·exact⟨_,_,hv⟩
     have hL4:=OpsL.snoc (q:=⟨gq,pv,fv,vv,v⟩) (uh HL) (uh HB02) (uh HAT) (by have:=uh HZA; omega) hwr (uh HA3) (by rw[hlen]; exact hrow4) hg4 (by rw[uh HZ3]; exact hwh4)
     rw[← List.take_succ_eq_append_getElem hlt] at hL4
     have HL4:=hide hL4
     have HB4:=hide ((below_next (below_next (uh HBR) (uh HB02)) (uh HA3)).grown hg4 (by have:=uh HZ3; omega) (fun b hb=>((uh HL).row.lt b hb).1))
     clear hL4 hrow4 hg4 hwh4 HL HAT HB02 HA3 HZ3 HR3 HCX HBR HA HZA c0 c1 c2 c3
     go_wp2
     go_roundw
     case rel=>exact⟨k+1,_,by omega,by go_num,uh HB4,uh HL4,uh HGD2⟩
     case measure=>simp[intOf]; omega
   ·have hk':k=ms.length:=by omega
    subst hk'
    rw[List.take_length] at hL
    have HBAD:Hid (badI ms = -1):=badI_none (by omega) (fun j h=>hgd j h h)
    have HL:=hide hL
    have HBR:=hide hb
    clear hL hb hgd hlf
    go_wp2
    go_ret2
    exact⟨uh HBR,fun h=>(by rw[uh HBAD] at h; omega),fun _=>⟨_,qs,rfl,uh HL⟩⟩
def TrA (w:World) (v:JV) (x:Value) : Prop:=Rep w (fun k=>k < w.heap.size) v x
theorem TrA.next {w w':World} {v:JV} {x:Value} (h:TrA w v x) (hb:Below w.heap.size w w') : TrA w' v x:=
 Rep.keep (fun k hk=>hb.block k hk) (fun _ hk=>Nat.lt_of_lt_of_le hk hb.size) _ _ h
def OutP (w:World) (o:Nat⊕JV) (e:Ending) (w':World) : Prop:=Below w.heap.size w w' ∧
 ((∃ c ev,o = .inl c∧e = .returned (.tuple #[.nilIface,ev])∧FltAt w' (c:Int) ev)∨∃ u t p,o = .inr u∧e = .returned (.tuple #[.iface t p,.nilIface])∧TrA w' u (.iface t p))
theorem valueAt_walk (v:JV) (hv:GdT v) (ts:List (List UInt8)) (a:Option Addr) (g off cap:Nat) (w:World) (ty:TypeId) (p:Value) (hr:TrA w v (.iface ty p)) (hs:SS w a g off (ts.map baT)) (hn:ts.length≤1048577) (ht:∀ t∈ts,t.length≤1048576) :
  Calls Tryz.prog 204 #[.iface ty p,.slice a ts.length cap] w (OutP w (optC 3 (getV v ts))):=by
 have REP:=hide hr
 have HV0:=hide hv
 have hadr:=hs.ad
 have HCE:=hide hs.cell
 simp only[List.length_map] at hadr HCE
 clear hr hs hv
 go_enter Tryz.func204,Tryz.ntmps204
 go_wp2_with fail
 go_loopw [6,7,13] (fun vv bv iv wr=>∃ (k:Nat) (u:JV) (ty:TypeId) (p:Value),k≤ts.length∧iv = .int .i64 (k:Int)∧bv = .bool true∧vv = .iface ty p∧getV v (ts.take k)=some u∧GdT u∧TrA w u (.iface ty p)∧w=wr) (fun _ _ iv _=>ts.length - (intOf iv).toNat)
 case atStart=>exact⟨0,v,ty,p,Nat.zero_le _,rfl,rfl,rfl,rfl,uh HV0,uh REP,rfl⟩
 case round=>
  obtain⟨k,u,ty,p,hk,rfl,rfl,rfl,hg,hgu,hrep,rfl⟩:=hrel
  clear REP HV0
  by_cases hlt:k < ts.length
  ·have hltI:(k:Int) < (ts.length:Int):=by omega
   obtain rfl:=hadr (by omega)
   have hck:=uh HCE k hlt
   rw[tok_getD hlt] at hck
   have hgd:baT (ts.getD k [])=strOf ts[k]:=by simp[List.getD,hlt,baT,strOf]
   rw[hgd] at hck
   have HC:=hide (implChild_walk u hgu.tw ts[k] (by have:=ht _ (List.getElem_mem hlt); omega) ty p w _ hrep)
   have HST:Hid (childV u ts[k]=none→getV v ts=none):=fun hc=>getV_stop hlt hg hc
   have HNX:Hid (∀ u',childV u ts[k]=some u'→getV v (ts.take (k+1))=some u'∧GdT u'):=fun u' hc=>⟨by rw[getV_step hlt hg]; exact hc,hgu.child hc⟩
   generalize strOf ts[k]=st at *
   clear hg hrep hgd HCE hgu
   go_wp2_with fail
   refine (uh HC).mono ?_
   rintro e w3 ⟨rfl,⟨x,rfl,hcn⟩ | ⟨x,u',rfl,hcs,hru⟩⟩
   ·have HV:=hide (uh HST hcn)
    clear HC HST HNX hck hcn
    go_wp2
    go_ret2
    exact⟨alloc_b _ _,.inl ⟨3,_,by rw[uh HV]; rfl,rfl,_,rfl,heap_alloc_new _ _⟩⟩
   ·have HN:=hide (uh HNX u' hcs)
    obtain⟨ty',p',rfl⟩:=rep_iface hru
    have HRU:=hide hru
    clear HC HST HNX hck hcs hru
    go_wp2
    go_roundw
    case rel=>exact⟨k+1,u',ty',p',by omega,by go_num,rfl,rfl,(uh HN).1,(uh HN).2,uh HRU,trivial⟩
    case measure=>simp[intOf]; omega
  ·have e:ts.take k=ts:=List.take_of_length_le (by omega)
   rw[e] at hg
   have HG:=hide hg
   have HR:=hide hrep
   clear hg hrep e HCE hgu
   go_wp2
   go_ret2
   exact⟨Below.refl _ _,.inr ⟨u,ty,p,by rw[uh HG]; rfl,rfl,uh HR⟩⟩
theorem cnt_ct {v:JV} (h:rdV v) : cntV v≤(ct v).length∧depV v≤cntV v:=by
 have hd:=(doc_facts (doc_nv h)).2.1
 rw[strOf_size,(nv_nf v).cnt] at hd
 exact⟨hd,(dep_cnt v).1⟩
theorem withinLimits_walk (v:JV) (hr:rdV v) (htw:twV v=false) (w:World) (S:Nat→Prop) (t:TypeId) (p:Value) (rep:Rep w S v (.iface t p)) (hS:∀ k,S k→k < w.heap.size) (hP:PowB w.heap.size w) (hl:(ct v).length≤10000000) :
  Calls Tryz.prog 73 #[.iface t p] w fun e w'=>e = .returned (.bool (decide (depV v≤100∧cntV v≤3000∧(ct v).length≤20000)))∧Below w.heap.size w w':=by
 obtain⟨h1,h2⟩:=cnt_ct hr
 have HC:=hide (sizeV v (rd_ok v hr) htw w S t p rep hS hP hl (by omega) (by omega))
 clear hr htw rep hS hP
 generalize depV v=d at *
 generalize cntV v=c at *
 generalize (ct v).length=n at *
 obtain⟨z,hz⟩ : ∃ z,decide (d≤100∧c≤3000∧n≤20000)=z:=⟨_,rfl⟩
 rw[hz]
 have HZ:=hide hz
 clear hz
 go_enter Tryz.func73,Tryz.ntmps73
 go_wp2_with fail
 refine (uh HC).mono ?_
 rintro e w1 ⟨rfl,b1⟩
 have HB:=hide (b1.alloc b1.size (szB d c n))
 clear HC b1
 simp only[szV]
 by_cases hd:d≤100
 ·have td:(d:Int)≤100:=by omega
  by_cases hc:c≤3000
  ·have tc:(c:Int)≤3000:=by omega
   by_cases hn:n≤20000
   ·have tn:(n:Int)≤20000:=by omega
    have HD:Hid (z=true):=(uh HZ).symm.trans (decide_eq_true ⟨hd,hc,hn⟩)
    clear hd hc hn
    go_wp2
    go_ret
    exact⟨by rw[uh HD]; rfl,uh HB⟩
   ·have tn:¬ (n:Int)≤20000:=by omega
    have HD:Hid (z=false):=(uh HZ).symm.trans (decide_eq_false (fun h=>hn h.2.2))
    clear hd hc hn
    go_wp2
    go_ret
    exact⟨by rw[uh HD]; rfl,uh HB⟩
  ·have tc:¬ (c:Int)≤3000:=by omega
   have HD:Hid (z=false):=(uh HZ).symm.trans (decide_eq_false (fun h=>hc h.2.1))
   clear hd hc
   go_wp2
   go_ret
   exact⟨by rw[uh HD]; rfl,uh HB⟩
 ·have td:¬ (d:Int)≤100:=by omega
  have HD:Hid (z=false):=(uh HZ).symm.trans (decide_eq_false (fun h=>hd h.1))
  clear hd
  go_wp2
  go_ret
  exact⟨by rw[uh HD]; rfl,uh HB⟩
end Go.Proofs.YtocnekbedcnmgaaGreatDoor
