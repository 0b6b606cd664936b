import Derived.Test.YtkjcgkfejdogbaaGreatDoorBz19
import Derived.Test.YtkjcgkfejdogbaaGreatDoorBz12
import Derived.Test.YtkjcgkfejdogbaaGreatDoorBz13
set_option maxRecDepth 100000
set_option maxHeartbeats 8000000
namespace Go.Proofs.YtkjcgkfejdogbaaGreatDoor
open Go.RowKit
theorem fl_nil (o:PFOp) : (CT.mk o []).fl=[o]:=by rw[CT.fl]
theorem fl_one (o:PFOp) (a:CT) : (CT.mk o [a]).fl=a.fl++[o]:=by rw[CT.fl]
theorem fl_two (o:PFOp) (a b:CT) (r:List CT) : (CT.mk o (a :: b :: r)).fl=a.fl++(b.fl++[o]):=by rw[CT.fl]
theorem fl_last (c:CT) : ∃ front,c.fl=front++[c.op]:=by
 match c with
 | .mk o []=>exact⟨[],by rw[fl_nil]; rfl⟩
 | .mk o [a]=>exact⟨a.fl,by rw[fl_one]; rfl⟩
 | .mk o (a :: b :: r)=>exact⟨a.fl++b.fl,by rw[fl_two,← List.append_assoc]; rfl⟩
theorem txt_nil (o:PFOp) : (CT.mk o []).txt=leafT o:=by rw[CT.txt]
theorem txt_one (o:PFOp) (a:CT) : (CT.mk o [a]).txt=33 :: a.txt:=by rw[CT.txt]
theorem txt_two (o:PFOp) (a b:CT) (r:List CT) : (CT.mk o (a :: b :: r)).txt=if o.k=9 then a.txt++(signT o.n++b.txt) else 40 :: (a.txt++(jointT o.k++(b.txt++[41]))):=by rw[CT.txt]
theorem sdec_of {o:PFOp} (h:fopOk o=true) (hk:o.k=1) : rangeI o.n=true:=by
 unfold fopOk at h
 simp only[Bool.and_eq_true] at h
 have:=h.1.2
 unfold numOk at this
 rwa [if_pos hk] at this
theorem sign_of {o:PFOp} (h:fopOk o=true) (hk:o.k=9) : 1≤o.n∧o.n≤6:=by
 unfold fopOk at h
 simp only[Bool.and_eq_true] at h
 have:=h.1.2
 unfold numOk at this
 rw[if_neg (by omega),if_pos hk] at this
 simpa using this
theorem steps_of {o:PFOp} (h:fopOk o=true) : o.steps.all stepOk=true:=by
 unfold fopOk at h
 simp only[Bool.and_eq_true] at h
 exact h.1.1.1.2
theorem refT_len {o:PFOp} (h:fopOk o=true) : (refT o).length≤1+15*szSteps o.steps:=by
 unfold refT
 have:=steps_len _ (steps_of h)
 rw[List.length_cons]
 omega
theorem leafT_len {o:PFOp} (h:fopOk o=true) : (leafT o).length≤12+15*szFop o:=by
 have hr:=refT_len h
 have e:szFop o=o.s.size+szSteps o.steps:=rfl
 unfold leafT
 split
 ·rename_i hk; have:=sdec_len (sdec_of h hk); omega
 ·split
  ·have:=quo_len o.s; omega
  ·split
   ·simp; omega
   ·split
    ·simp; omega
    ·split
     ·simp; omega
     ·split
      ·simp; omega
      ·omega
theorem signT_len (n:Int) : (signT n).length≤2:=by
 unfold signT
 split
 ·simp
 ·split
  ·simp
  ·split
   ·simp
   ·split
    ·simp
    ·split <;> simp
theorem jointT_len (k:Int) : (jointT k).length=2:=by unfold jointT; split <;> rfl
theorem szFops_app (a b:List PFOp) : szFops (a++b)=szFops a+szFops b:=by
 unfold szFops
 simp
 omega
theorem szFops_one (o:PFOp) : szFops [o]=1+szFop o:=by
 show [o].length+([o].map szFop).sum=_
 simp
theorem txt_len {c:CT} (h:GC c) : c.txt.length≤15*szFops c.fl:=by
 induction h with
 | @leaf o hf hp=>
  have:=leafT_len hf
  rw[txt_nil,fl_nil,szFops_one]
  omega
 | @not o a hf hk _ ht ih=>
  rw[txt_one,fl_one,szFops_app,szFops_one,List.length_cons]
  omega
 | @cmp o a b hf hk _ _ ha hb ia ib=>
  rw[txt_two,fl_two,if_pos hk,szFops_app,szFops_app,szFops_one,List.length_append,List.length_append]
  have:=signT_len o.n
  omega
 | @two o a b hf hk _ _ ha hb ia ib=>
  rw[txt_two,fl_two,if_neg (by omega),szFops_app,szFops_app,szFops_one,List.length_cons,List.length_append,List.length_append,List.length_append,jointT_len]
  simp only[List.length_cons,List.length_nil]
  omega
theorem start_of {b:CT} (h:GC b) (cond pre suf:List PFOp) (hsp:cond=pre++(b.fl++suf)) : startI cond.length (((cond.map (·.k)).take (pre.length+b.fl.length)).reverse) b.tru=(pre.length:Int):=by
 have e:(cond.map (·.k)).take (pre.length+b.fl.length)=pre.map (·.k)++b.fl.map (·.k):=by
  rw[hsp,← List.append_assoc,List.map_append,List.take_left' (by simp),List.map_append]
 rw[e,List.reverse_append]
 unfold startI
 rw[h.wf.back cond.length _ (by rw[hsp]; simp; omega)]
 simp
theorem op_at {w:World} {v:Value} {cond:List PFOp} {bl:List Nat} (h:ORow fopE w v cond bl) {i:Nat} {o:PFOp} (ho:cond[i]?=some o) : ∃ g cp q ib,v = .slice (some ⟨g,0,none⟩) cond.length cp∧w.cell? ⟨g,i*5,none⟩=some (.int .i64 o.k)∧w.cell? ⟨g,i*5+1,none⟩=some (.int .i64 o.n)∧w.cell? ⟨g,i*5+2,none⟩=some (.string o.s)∧w.cell? ⟨g,i*5+3,none⟩=some (.bool o.root)∧w.cell? ⟨g,i*5+4,none⟩=some q∧ORow stepE w q o.steps ib∧∃ x y z,q = .slice x y z:=by
 obtain⟨a,cp,rfl,-,hxa⟩:=h.form
 have hi:=(List.getElem?_eq_some_iff.1 ho).1
 obtain⟨g,rfl⟩:=hxa (by omega)
 obtain⟨vs,ib,hE,hc,-,-,-⟩:=h.at ho
 obtain⟨q,rfl,hst⟩:=hE
 obtain⟨x,z,hq,-,-⟩:=hst.form
 exact⟨g,cp,q,ib,rfl,(hc 0 _ rfl).1,(hc 1 _ rfl).1,(hc 2 _ rfl).1,(hc 3 _ rfl).1,(hc 4 _ rfl).1,hst,x,_,z,hq⟩
theorem condText_walk (cond:List PFOp) (bl:List Nat) (hn:cond.length≤1000) (hz:szFops cond≤1048576) {c:CT} (hc:GC c) : ∀ (pre suf:List PFOp) (_:cond=pre++(c.fl++suf)) (v:Value) (w:World) (_:ORow fopE w v cond bl),
  Calls Tryz.prog 39 #[v,.int .i64 (((pre.length+c.fl.length:Nat) : Int) - 1)] w fun e w'=>e = .returned (.string (strOf c.txt))∧Below w.heap.size w w':=by
 induction hc with
 | @leaf o hf hp=>
  have HGC:GC (.mk o []):=.leaf hf hp
  intro pre suf hsp v w h
  have HSP:=hide hsp
  obtain⟨front,hfr⟩:=fl_last (CT.mk o [])
  have hcl:pre.length+((CT.mk o [])).fl.length=pre.length+front.length+1:=by rw[hfr]; simp; omega
  have hat:cond[pre.length+front.length]?=some o:=by rw[hsp,hfr]; simp[CT.op]
  have hil:pre.length+front.length < cond.length:=(List.getElem?_eq_some_iff.1 hat).1
  have hmem:o∈cond:=List.mem_of_getElem? hat
  have hso:=sz_fop hz hmem
  have hss:szSteps o.steps≤1048576:=by
   have h1:=sum_mem szFop hmem
   have e1:szFop o=o.s.size+szSteps o.steps:=rfl
   have e3:szFops cond=cond.length+(cond.map szFop).sum:=rfl
   omega
  have hix:(((pre.length+((CT.mk o [])).fl.length:Nat) : Int) - 1)=((pre.length+front.length:Nat) : Int):=by rw[hcl]; omega
  rw[hix]
  obtain⟨g,cp,q,jb,rfl,d0,d1,d2,d3,d4,hst,x,y,z,rfl⟩:=op_at h hat
  have HTL:=hide (txt_len (c:=(CT.mk o [])) HGC)
  have HB:Hid (∀ ob,Below w.heap.size w (w.alloc ob)):=fun ob=>alloc_b w ob
  have htx:(CT.mk o []).txt=leafT o:=txt_nil o
  rw[htx]
  have HRT:Hid (∀ wx,Below w.heap.size w wx→Calls Tryz.prog 61 #[.agg #[.int .i64 o.k,.int .i64 o.n,.string o.s,.bool o.root,.slice x y z]] wx fun e w'=>e = .returned (.string (strOf (refT o)))∧Below wx.heap.size wx w'):=fun wx hx=>refText_walk o _ jb wx (hst.below hx) (steps_of hf) hss
  have HRL:Hid ((strOf (refT o)).size≤20000000):=by show _≤_; rw[strOf_size]; have:=refT_len hf; omega
  have HSD:Hid (o.k=1→∀ wx,Calls Tryz.prog 38 #[.int .i64 o.n] wx fun e w'=>e = .returned (.string (strOf (sdec o.n)))∧Below wx.heap.size wx w'):=fun hk wx=>sdec_walk _ wx (sdec_of hf hk)
  have HQU:Hid (∀ wx,Calls Tryz.prog 37 #[.string o.s] wx fun e w'=>e = .returned (.string (strOf (quo o.s)))∧Below wx.heap.size wx w'):=fun wx=>quo_walk _ wx hso.1
  have hk:=fop_k hf
  have hk8:=parts_zero hk hp
  have HLF:Hid (leafT o=if o.k=1 then sdec o.n else if o.k=2 then quo o.s else if o.k=3 then [116,114,117,101] else if o.k=4 then [102,97,108,115,101] else if o.k=5 then [110,117,108,108] else if o.k=7 then [108,101,110,103,116,104,40]++(refT o++[41]) else refT o):=rfl
  generalize leafT o=LF at *
  generalize refT o=RT at *
  have hiI:((pre.length+front.length:Nat) : Int) < (cond.length:Int):=by omega
  have hnI:(cond.length:Int)≤1000:=by omega
  have hi0:(0:Int)≤((pre.length+front.length:Nat) : Int):=by omega
  clear hsp HSP hfr hcl hat hmem hso hss hix h hst htx HTL HGC hp hf
  generalize pre.length+front.length=i at *
  obtain⟨k,n,s,r,st⟩:=o
  simp only at *
  rcases (show k=1∨k=2∨k=3∨k=4∨k=5∨k=6∨k=7∨k=8 by omega) with rfl | rfl | rfl | rfl | rfl | rfl | rfl | rfl
  ·skip
   clear hk hk8
   have HV:Hid (LF=sdec n):=by show _=_; rw[uh HLF]; rfl
   have HSD2:=hide (uh HSD rfl)
   clear HSD
   go_enter Tryz.func39,Tryz.ntmps39
   go_wp2_with fail
   refine (uh HSD2 _).mono ?_
   rintro e w2 ⟨rfl,b2⟩
   have HB2:=hide (below_next (uh HB _) b2)
   clear b2
   go_wp2
   go_ret
   exact⟨by rw[uh HV]; rfl,uh HB2⟩
  ·skip
   clear hk hk8
   have HV:Hid (LF=quo s):=by show _=_; rw[uh HLF]; rfl
   go_enter Tryz.func39,Tryz.ntmps39
   go_wp2_with fail
   refine (uh HQU _).mono ?_
   rintro e w2 ⟨rfl,b2⟩
   have HB2:=hide (below_next (uh HB _) b2)
   clear b2
   go_wp2
   go_ret
   exact⟨by rw[uh HV]; rfl,uh HB2⟩
  ·skip
   clear hk hk8
   have HV:Hid (LF=[116,114,117,101]):=by show _=_; rw[uh HLF]; rfl
   go_enter Tryz.func39,Tryz.ntmps39
   go_wp2
   go_ret
   exact⟨by rw[uh HV]; rfl,uh HB _⟩
  ·skip
   clear hk hk8
   have HV:Hid (LF=[102,97,108,115,101]):=by show _=_; rw[uh HLF]; rfl
   go_enter Tryz.func39,Tryz.ntmps39
   go_wp2
   go_ret
   exact⟨by rw[uh HV]; rfl,uh HB _⟩
  ·skip
   clear hk hk8
   have HV:Hid (LF=[110,117,108,108]):=by show _=_; rw[uh HLF]; rfl
   go_enter Tryz.func39,Tryz.ntmps39
   go_wp2
   go_ret
   exact⟨by rw[uh HV]; rfl,uh HB _⟩
  ·skip
   clear hk hk8
   have HV:Hid (LF=RT):=by show _=_; rw[uh HLF]; rfl
   go_enter Tryz.func39,Tryz.ntmps39
   go_wp2_with fail
   refine (uh HRT _ (uh HB _)).mono ?_
   rintro e w2 ⟨rfl,b2⟩
   have HB2:=hide (below_next (uh HB _) b2)
   clear b2
   go_wp2
   go_ret
   exact⟨by rw[uh HV]; rfl,uh HB2⟩
  ·skip
   clear hk hk8
   have HV:Hid (strOf LF=(⟨#[108,101,110,103,116,104,40]⟩++strOf RT)++⟨#[41]⟩):=by
    show _=_
    rw[show (⟨#[108,101,110,103,116,104,40]⟩ : ByteArray)=strOf [108,101,110,103,116,104,40] from rfl,show (⟨#[41]⟩ : ByteArray)=strOf [41] from rfl,strOf_app,strOf_app,uh HLF]
    simp
   have hrl:=uh HRL
   generalize strOf RT=V at *
   generalize strOf LF=LV at *
   have z1:(9223372036854775807 < 7+V.size)=False:=eq_false (by omega)
   have z2:(9223372036854775807 < 7+V.size+1)=False:=eq_false (by omega)
   clear hrl
   go_enter Tryz.func39,Tryz.ntmps39
   go_wp2_with fail
   refine (uh HRT _ (uh HB _)).mono ?_
   rintro e w2 ⟨rfl,b2⟩
   have HB2:=hide (below_next (uh HB _) b2)
   clear b2
   go_wp2
   go_ret
   exact⟨by rw[uh HV]; rfl,uh HB2⟩
  ·skip
   clear hk hk8
   have HV:Hid (LF=RT):=by show _=_; rw[uh HLF]; rfl
   go_enter Tryz.func39,Tryz.ntmps39
   go_wp2_with fail
   refine (uh HRT _ (uh HB _)).mono ?_
   rintro e w2 ⟨rfl,b2⟩
   have HB2:=hide (below_next (uh HB _) b2)
   clear b2
   go_wp2
   go_ret
   exact⟨by rw[uh HV]; rfl,uh HB2⟩
 | @not o a hf hk hga ha ia=>
  have HGC:GC (CT.mk o [a]):=.not hf hk hga ha
  intro pre suf hsp v w h
  have HSP:=hide hsp
  obtain⟨front,hfr⟩:=fl_last (CT.mk o [a])
  have hcl:pre.length+((CT.mk o [a])).fl.length=pre.length+front.length+1:=by rw[hfr]; simp; omega
  have hat:cond[pre.length+front.length]?=some o:=by rw[hsp,hfr]; simp[CT.op]
  have hil:pre.length+front.length < cond.length:=(List.getElem?_eq_some_iff.1 hat).1
  have hmem:o∈cond:=List.mem_of_getElem? hat
  have hso:=sz_fop hz hmem
  have hss:szSteps o.steps≤1048576:=by
   have h1:=sum_mem szFop hmem
   have e1:szFop o=o.s.size+szSteps o.steps:=rfl
   have e3:szFops cond=cond.length+(cond.map szFop).sum:=rfl
   omega
  have hix:(((pre.length+((CT.mk o [a])).fl.length:Nat) : Int) - 1)=((pre.length+front.length:Nat) : Int):=by rw[hcl]; omega
  rw[hix]
  obtain⟨g,cp,q,jb,rfl,d0,d1,d2,d3,d4,hst,x,y,z,rfl⟩:=op_at h hat
  have HTL:=hide (txt_len (c:=(CT.mk o [a])) HGC)
  have HB:Hid (∀ ob,Below w.heap.size w (w.alloc ob)):=fun ob=>alloc_b w ob
  have hfa:front=a.fl:=by
   have e:=fl_one o a
   rw[e] at hfr
   exact (List.append_inj_left' hfr rfl).symm
  subst hfa
  have HIA:Hid (∀ wx,Below w.heap.size w wx→Calls Tryz.prog 39 #[.slice (some ⟨g,0,none⟩) cond.length cp,.int .i64 (((pre.length+a.fl.length:Nat) : Int) - 1)] wx fun e w'=>e = .returned (.string (strOf a.txt))∧Below wx.heap.size wx w'):=fun wx hx=>ia pre ([o]++suf) (by rw[hsp,hfr]; simp[CT.op]) _ wx (h.below hx)
  have hla:(strOf a.txt).size≤20000000:=by
   rw[strOf_size]
   have h1:=txt_len hga
   have h2:szFops a.fl≤szFops cond:=by rw[hsp,hfr,szFops_app,szFops_app,szFops_app]; omega
   omega
  have HV:Hid (strOf (CT.mk o [a]).txt=⟨#[33]⟩++strOf a.txt):=by
   show _=_
   rw[show (⟨#[33]⟩ : ByteArray)=strOf [33] from rfl,strOf_app]
   rw[txt_one]
   rfl
  have hiI:((pre.length+a.fl.length:Nat) : Int) < (cond.length:Int):=by omega
  have hnI:(cond.length:Int)≤1000:=by omega
  have hi0:(0:Int)≤((pre.length+a.fl.length:Nat) : Int):=by omega
  clear hsp HSP hfr hcl hat hmem hso hss hix h hst HTL HGC ia hga ha hf
  generalize strOf (CT.mk o [a]).txt=LV at *
  generalize strOf a.txt=VA at *
  generalize pre.length+a.fl.length=i at *
  obtain⟨k,n,s,r,st⟩:=o
  simp only at *
  subst hk
  have HIA2:=hide (uh HIA _ (alloc_b w (Obj.cells #[.int .i64 12,.int .i64 n,.string s,.bool r,.slice x y z] 37 (0,0))))
  have z1:(9223372036854775807 < 1+VA.size)=False:=eq_false (by omega)
  clear HIA hla
  go_enter Tryz.func39,Tryz.ntmps39
  go_wp2_with fail
  refine (uh HIA2).mono ?_
  rintro e w2 ⟨rfl,b2⟩
  have HB2:=hide (below_next (uh HB _) b2)
  have h0:=heap_alloc_new w (Obj.cells #[.int .i64 12,.int .i64 n,.string s,.bool r,.slice x y z] 37 (0,0))
  have y0:w2.cell? ⟨w.heap.size,0,none⟩=some (.int .i64 12):=Lib.cell_of_heap ((b2.block _ (Array.getElem?_eq_some_iff.1 h0).1).trans h0) 0
  clear b2 h0 HIA2 d0 d1 d2 d3 d4
  go_wp2
  go_ret
  exact⟨by rw[uh HV]; rfl,uh HB2⟩
 | @cmp o a b hf hk hga hgb ha hb ia ib=>
  have HGC:GC (CT.mk o [a,b]):=.cmp hf hk hga hgb ha hb
  intro pre suf hsp v w h
  have HSP:=hide hsp
  obtain⟨front,hfr⟩:=fl_last (CT.mk o [a,b])
  have hcl:pre.length+((CT.mk o [a,b])).fl.length=pre.length+front.length+1:=by rw[hfr]; simp; omega
  have hat:cond[pre.length+front.length]?=some o:=by rw[hsp,hfr]; simp[CT.op]
  have hil:pre.length+front.length < cond.length:=(List.getElem?_eq_some_iff.1 hat).1
  have hmem:o∈cond:=List.mem_of_getElem? hat
  have hso:=sz_fop hz hmem
  have hss:szSteps o.steps≤1048576:=by
   have h1:=sum_mem szFop hmem
   have e1:szFop o=o.s.size+szSteps o.steps:=rfl
   have e3:szFops cond=cond.length+(cond.map szFop).sum:=rfl
   omega
  have hix:(((pre.length+((CT.mk o [a,b])).fl.length:Nat) : Int) - 1)=((pre.length+front.length:Nat) : Int):=by rw[hcl]; omega
  rw[hix]
  obtain⟨g,cp,q,jb,rfl,d0,d1,d2,d3,d4,hst,x,y,z,rfl⟩:=op_at h hat
  have HTL:=hide (txt_len (c:=(CT.mk o [a,b])) HGC)
  have HB:Hid (∀ ob,Below w.heap.size w (w.alloc ob)):=fun ob=>alloc_b w ob
  have hfa:front=a.fl++b.fl:=by
   have e:(CT.mk o [a,b]).fl=(a.fl++b.fl)++[o]:=by rw[fl_two,List.append_assoc]
   rw[e] at hfr
   exact (List.append_inj_left' hfr rfl).symm
  subst hfa
  have hspA:cond=pre++(a.fl++(b.fl++([o]++suf))):=by rw[hsp,hfr]; simp[CT.op]
  have hspB:cond=(pre++a.fl)++(b.fl++([o]++suf)):=by rw[hspA]; simp
  have hlab:(a.fl++b.fl).length=a.fl.length+b.fl.length:=List.length_append
  rw[hlab] at hix hil d0 d1 d2 d3 d4 hat hcl ⊢
  have HIB:Hid (∀ wx,Below w.heap.size w wx→Calls Tryz.prog 39 #[.slice (some ⟨g,0,none⟩) cond.length cp,.int .i64 (((pre.length+(a.fl.length+b.fl.length) : Nat) : Int) - 1)] wx fun e w'=>e = .returned (.string (strOf b.txt))∧Below wx.heap.size wx w'):=fun wx hx=>by
   have:=ib (pre++a.fl) _ hspB _ wx (h.below hx)
   rwa [show (pre++a.fl).length+b.fl.length=pre.length+(a.fl.length+b.fl.length) by simp; omega] at this
  have HIA:Hid (∀ wx,Below w.heap.size w wx→Calls Tryz.prog 39 #[.slice (some ⟨g,0,none⟩) cond.length cp,.int .i64 (((pre.length+a.fl.length:Nat) : Int) - 1)] wx fun e w'=>e = .returned (.string (strOf a.txt))∧Below wx.heap.size wx w'):=fun wx hx=>ia pre _ hspA _ wx (h.below hx)
  have HSTT:Hid (∀ wx,Below w.heap.size w wx→Calls Tryz.prog 32 #[.slice (some ⟨g,0,none⟩) cond.length cp,.int .i64 (((pre.length+(a.fl.length+b.fl.length) : Nat) : Int) - 1),.bool false] wx fun e w'=>e = .returned (.int .i64 ((pre.length+a.fl.length:Nat) : Int))∧wx=w'):=fun wx hx=>by
   have h1:=start_of hgb cond (pre++a.fl) _ hspB
   rw[hb,show (pre++a.fl).length+b.fl.length=pre.length+(a.fl.length+b.fl.length) by simp; omega] at h1
   have h2:=start_walk _ cond bl hn (pre.length+(a.fl.length+b.fl.length)) cond.length false wx (by omega) (by omega) (.of (h.below hx))
   rw[h1] at h2
   rwa [show ((pre++a.fl).length:Int)=((pre.length+a.fl.length:Nat) : Int) by simp] at h2
  have hla:(strOf a.txt).size≤20000000:=by
   rw[strOf_size]
   have h1:=txt_len hga
   have h2:szFops a.fl≤szFops cond:=by rw[hspA]; simp only[szFops_app]; omega
   omega
  have hlb:(strOf b.txt).size≤20000000:=by
   rw[strOf_size]
   have h1:=txt_len hgb
   have h2:szFops b.fl≤szFops cond:=by rw[hspB]; simp only[szFops_app]; omega
   omega
  have hiI:((pre.length+(a.fl.length+b.fl.length) : Nat) : Int) < (cond.length:Int):=by omega
  have hjI:((pre.length+a.fl.length:Nat) : Int) < (cond.length:Int):=by omega
  have hnI:(cond.length:Int)≤1000:=by omega
  have hsn:=sign_of hf hk
  have HSG:Hid (∀ wx,Calls Tryz.prog 62 #[.int .i64 o.n] wx fun e w'=>e = .returned (.string (strOf (signT o.n)))∧Below wx.heap.size wx w'):=fun wx=>sign_walk _ wx hsn
  have hls:(strOf (signT o.n)).size≤2:=by rw[strOf_size]; exact signT_len _
  have HV:Hid (strOf (CT.mk o [a,b]).txt=(strOf a.txt++strOf (signT o.n))++strOf b.txt):=by
   show _=_
   rw[strOf_app,strOf_app]
   rw[txt_two,if_pos hk]
   simp
  clear hsp HSP hfr hcl hat hmem hso hss hix h hst HTL HGC ia ib hga hgb ha hb hf hspA hspB hlab hsn
  generalize strOf (CT.mk o [a,b]).txt=LV at *
  generalize strOf a.txt=VA at *
  generalize strOf b.txt=VB at *
  generalize strOf (signT o.n)=VS at *
  generalize hI:pre.length+(a.fl.length+b.fl.length)=i at *
  generalize hJ:pre.length+a.fl.length=jj at *
  clear hI hJ
  obtain⟨k,n,s,r,st⟩:=o
  simp only at *
  subst hk
  have HIB2:=hide (uh HIB _ (alloc_b w (Obj.cells #[.int .i64 9,.int .i64 n,.string s,.bool r,.slice x y z] 37 (0,0))))
  have HCX:Hid (∀ w',Below w.heap.size (w.alloc (Obj.cells #[.int .i64 9,.int .i64 n,.string s,.bool r,.slice x y z] 37 (0,0))) w'→True):=fun _ _=>trivial
  have z1:(9223372036854775807 < VA.size+VS.size)=False:=eq_false (by omega)
  have z2:(9223372036854775807 < VA.size+VS.size+VB.size)=False:=eq_false (by omega)
  clear hla hlb hls
  clear HCX
  go_enter Tryz.func39,Tryz.ntmps39
  go_wp2_with fail
  refine (uh HIB2).mono ?_
  rintro e w2 ⟨rfl,b2⟩
  have h0:=heap_alloc_new w (Obj.cells #[.int .i64 9,.int .i64 n,.string s,.bool r,.slice x y z] 37 (0,0))
  have h2:=(b2.block _ (Array.getElem?_eq_some_iff.1 h0).1).trans h0
  have y0:w2.cell? ⟨w.heap.size,0,none⟩=some (.int .i64 9):=Lib.cell_of_heap h2 0
  have HB2:=hide (below_next (uh HB _) b2)
  have H2:=hide h2
  have HST2:=hide (uh HSTT w2 (uh HB2))
  have HIA2:=hide (uh HIA w2 (uh HB2))
  clear b2 h0 h2 HIB2 HIB HSTT HIA d0 d1 d2 d3 d4
  go_wp2_with fail
  refine (uh HST2).mono ?_
  rintro e w3 ⟨rfl,rfl⟩
  clear HST2
  go_wp2_with fail
  refine (uh HIA2).mono ?_
  rintro e w4 ⟨rfl,b4⟩
  have h4:=(b4.block _ (Array.getElem?_eq_some_iff.1 (uh H2)).1).trans (uh H2)
  have y1:w4.cell? ⟨w.heap.size,0,none⟩=some (.int .i64 9):=Lib.cell_of_heap h4 0
  have y2:w4.cell? ⟨w.heap.size,1,none⟩=some (.int .i64 n):=Lib.cell_of_heap h4 1
  have HB4:=hide (below_next (uh HB2) b4)
  clear b4 h4 HIA2 H2 y0
  go_wp2_with fail
  refine (uh HSG _).mono ?_
  rintro e w5 ⟨rfl,b5⟩
  have HB5:=hide (below_next (uh HB4) b5)
  clear b5 HSG
  go_wp2
  go_ret
  exact⟨by rw[uh HV]; rfl,uh HB5⟩
 | @two o a b hf hk hga hgb ha hb ia ib=>
  have HGC:GC (CT.mk o [a,b]):=.two hf hk hga hgb ha hb
  intro pre suf hsp v w h
  have HSP:=hide hsp
  obtain⟨front,hfr⟩:=fl_last (CT.mk o [a,b])
  have hcl:pre.length+((CT.mk o [a,b])).fl.length=pre.length+front.length+1:=by rw[hfr]; simp; omega
  have hat:cond[pre.length+front.length]?=some o:=by rw[hsp,hfr]; simp[CT.op]
  have hil:pre.length+front.length < cond.length:=(List.getElem?_eq_some_iff.1 hat).1
  have hmem:o∈cond:=List.mem_of_getElem? hat
  have hso:=sz_fop hz hmem
  have hss:szSteps o.steps≤1048576:=by
   have h1:=sum_mem szFop hmem
   have e1:szFop o=o.s.size+szSteps o.steps:=rfl
   have e3:szFops cond=cond.length+(cond.map szFop).sum:=rfl
   omega
  have hix:(((pre.length+((CT.mk o [a,b])).fl.length:Nat) : Int) - 1)=((pre.length+front.length:Nat) : Int):=by rw[hcl]; omega
  rw[hix]
  obtain⟨g,cp,q,jb,rfl,d0,d1,d2,d3,d4,hst,x,y,z,rfl⟩:=op_at h hat
  have HTL:=hide (txt_len (c:=(CT.mk o [a,b])) HGC)
  have HB:Hid (∀ ob,Below w.heap.size w (w.alloc ob)):=fun ob=>alloc_b w ob
  have hfa:front=a.fl++b.fl:=by
   have e:(CT.mk o [a,b]).fl=(a.fl++b.fl)++[o]:=by rw[fl_two,List.append_assoc]
   rw[e] at hfr
   exact (List.append_inj_left' hfr rfl).symm
  subst hfa
  have hspA:cond=pre++(a.fl++(b.fl++([o]++suf))):=by rw[hsp,hfr]; simp[CT.op]
  have hspB:cond=(pre++a.fl)++(b.fl++([o]++suf)):=by rw[hspA]; simp
  have hlab:(a.fl++b.fl).length=a.fl.length+b.fl.length:=List.length_append
  rw[hlab] at hix hil d0 d1 d2 d3 d4 hat hcl ⊢
  have HIB:Hid (∀ wx,Below w.heap.size w wx→Calls Tryz.prog 39 #[.slice (some ⟨g,0,none⟩) cond.length cp,.int .i64 (((pre.length+(a.fl.length+b.fl.length) : Nat) : Int) - 1)] wx fun e w'=>e = .returned (.string (strOf b.txt))∧Below wx.heap.size wx w'):=fun wx hx=>by
   have:=ib (pre++a.fl) _ hspB _ wx (h.below hx)
   rwa [show (pre++a.fl).length+b.fl.length=pre.length+(a.fl.length+b.fl.length) by simp; omega] at this
  have HIA:Hid (∀ wx,Below w.heap.size w wx→Calls Tryz.prog 39 #[.slice (some ⟨g,0,none⟩) cond.length cp,.int .i64 (((pre.length+a.fl.length:Nat) : Int) - 1)] wx fun e w'=>e = .returned (.string (strOf a.txt))∧Below wx.heap.size wx w'):=fun wx hx=>ia pre _ hspA _ wx (h.below hx)
  have HSTT:Hid (∀ wx,Below w.heap.size w wx→Calls Tryz.prog 32 #[.slice (some ⟨g,0,none⟩) cond.length cp,.int .i64 (((pre.length+(a.fl.length+b.fl.length) : Nat) : Int) - 1),.bool true] wx fun e w'=>e = .returned (.int .i64 ((pre.length+a.fl.length:Nat) : Int))∧wx=w'):=fun wx hx=>by
   have h1:=start_of hgb cond (pre++a.fl) _ hspB
   rw[hb,show (pre++a.fl).length+b.fl.length=pre.length+(a.fl.length+b.fl.length) by simp; omega] at h1
   have h2:=start_walk _ cond bl hn (pre.length+(a.fl.length+b.fl.length)) cond.length true wx (by omega) (by omega) (.of (h.below hx))
   rw[h1] at h2
   rwa [show ((pre++a.fl).length:Int)=((pre.length+a.fl.length:Nat) : Int) by simp] at h2
  have hla:(strOf a.txt).size≤20000000:=by
   rw[strOf_size]
   have h1:=txt_len hga
   have h2:szFops a.fl≤szFops cond:=by rw[hspA]; simp only[szFops_app]; omega
   omega
  have hlb:(strOf b.txt).size≤20000000:=by
   rw[strOf_size]
   have h1:=txt_len hgb
   have h2:szFops b.fl≤szFops cond:=by rw[hspB]; simp only[szFops_app]; omega
   omega
  have hiI:((pre.length+(a.fl.length+b.fl.length) : Nat) : Int) < (cond.length:Int):=by omega
  have hjI:((pre.length+a.fl.length:Nat) : Int) < (cond.length:Int):=by omega
  have hnI:(cond.length:Int)≤1000:=by omega
  have HV:Hid (strOf (CT.mk o [a,b]).txt=(((⟨#[40]⟩++strOf a.txt)++strOf (jointT o.k))++strOf b.txt)++⟨#[41]⟩):=by
   show _=_
   rw[show (⟨#[40]⟩ : ByteArray)=strOf [40] from rfl,show (⟨#[41]⟩ : ByteArray)=strOf [41] from rfl,strOf_app,strOf_app,strOf_app,strOf_app]
   rw[txt_two,if_neg (by omega)]
   simp
  clear hsp HSP hfr hcl hat hmem hso hss hix h hst HTL HGC ia ib hga hgb ha hb hf hspA hspB hlab
  generalize strOf (CT.mk o [a,b]).txt=LV at *
  generalize strOf a.txt=VA at *
  generalize strOf b.txt=VB at *
  generalize hI:pre.length+(a.fl.length+b.fl.length)=i at *
  generalize hJ:pre.length+a.fl.length=jj at *
  clear hI hJ
  obtain⟨k,n,s,r,st⟩:=o
  simp only at *
  have z1:(9223372036854775807 < 1+VA.size)=False:=eq_false (by omega)
  have z2:(9223372036854775807 < 1+VA.size+2)=False:=eq_false (by omega)
  have z3:(9223372036854775807 < 1+VA.size+2+VB.size)=False:=eq_false (by omega)
  have z4:(9223372036854775807 < 1+VA.size+2+VB.size+1)=False:=eq_false (by omega)
  clear hla hlb
  rcases hk with rfl | rfl
  ·skip
   have HIB2:=hide (uh HIB _ (alloc_b w (Obj.cells #[.int .i64 10,.int .i64 n,.string s,.bool r,.slice x y z] 37 (0,0))))
   have HCX:Hid (∀ w',Below w.heap.size (w.alloc (Obj.cells #[.int .i64 10,.int .i64 n,.string s,.bool r,.slice x y z] 37 (0,0))) w'→True):=fun _ _=>trivial
   clear HCX
   go_enter Tryz.func39,Tryz.ntmps39
   go_wp2_with fail
   refine (uh HIB2).mono ?_
   rintro e w2 ⟨rfl,b2⟩
   have h0:=heap_alloc_new w (Obj.cells #[.int .i64 10,.int .i64 n,.string s,.bool r,.slice x y z] 37 (0,0))
   have h2:=(b2.block _ (Array.getElem?_eq_some_iff.1 h0).1).trans h0
   have y0:w2.cell? ⟨w.heap.size,0,none⟩=some (.int .i64 10):=Lib.cell_of_heap h2 0
   have HB2:=hide (below_next (uh HB _) b2)
   have H2:=hide h2
   have HST2:=hide (uh HSTT w2 (uh HB2))
   have HIA2:=hide (uh HIA w2 (uh HB2))
   clear b2 h0 h2 HIB2 HIB HSTT HIA d0 d1 d2 d3 d4
   go_wp2_with fail
   refine (uh HST2).mono ?_
   rintro e w3 ⟨rfl,rfl⟩
   clear HST2
   go_wp2_with fail
   refine (uh HIA2).mono ?_
   rintro e w4 ⟨rfl,b4⟩
   have h4:=(b4.block _ (Array.getElem?_eq_some_iff.1 (uh H2)).1).trans (uh H2)
   have y1:w4.cell? ⟨w.heap.size,0,none⟩=some (.int .i64 10):=Lib.cell_of_heap h4 0
   have y2:w4.cell? ⟨w.heap.size,1,none⟩=some (.int .i64 n):=Lib.cell_of_heap h4 1
   have HB4:=hide (below_next (uh HB2) b4)
   clear b4 h4 HIA2 H2 y0
   go_wp2
   go_ret
   exact⟨by rw[uh HV]; rfl,uh HB4⟩
  ·skip
   have HIB2:=hide (uh HIB _ (alloc_b w (Obj.cells #[.int .i64 11,.int .i64 n,.string s,.bool r,.slice x y z] 37 (0,0))))
   have HCX:Hid (∀ w',Below w.heap.size (w.alloc (Obj.cells #[.int .i64 11,.int .i64 n,.string s,.bool r,.slice x y z] 37 (0,0))) w'→True):=fun _ _=>trivial
   clear HCX
   go_enter Tryz.func39,Tryz.ntmps39
   go_wp2_with fail
   refine (uh HIB2).mono ?_
   rintro e w2 ⟨rfl,b2⟩
   have h0:=heap_alloc_new w (Obj.cells #[.int .i64 11,.int .i64 n,.string s,.bool r,.slice x y z] 37 (0,0))
   have h2:=(b2.block _ (Array.getElem?_eq_some_iff.1 h0).1).trans h0
   have y0:w2.cell? ⟨w.heap.size,0,none⟩=some (.int .i64 11):=Lib.cell_of_heap h2 0
   have HB2:=hide (below_next (uh HB _) b2)
   have H2:=hide h2
   have HST2:=hide (uh HSTT w2 (uh HB2))
   have HIA2:=hide (uh HIA w2 (uh HB2))
   clear b2 h0 h2 HIB2 HIB HSTT HIA d0 d1 d2 d3 d4
   go_wp2_with fail
   refine (uh HST2).mono ?_
   rintro e w3 ⟨rfl,rfl⟩
   clear HST2
   go_wp2_with fail
   refine (uh HIA2).mono ?_
   rintro e w4 ⟨rfl,b4⟩
   have h4:=(b4.block _ (Array.getElem?_eq_some_iff.1 (uh H2)).1).trans (uh H2)
   have y1:w4.cell? ⟨w.heap.size,0,none⟩=some (.int .i64 11):=Lib.cell_of_heap h4 0
   have y2:w4.cell? ⟨w.heap.size,1,none⟩=some (.int .i64 n):=Lib.cell_of_heap h4 1
   have HB4:=hide (below_next (uh HB2) b4)
   clear b4 h4 HIA2 H2 y0
   go_wp2
   go_ret
   exact⟨by rw[uh HV]; rfl,uh HB4⟩
def ptV (ms:List PSeg) : ByteArray×Bool:=if pathOk ms=true then (strOf (pathU ms ms.length),true) else (⟨#[]⟩,false)
theorem sel_parts {o:PSel} (h:selOk o=true) : (1≤o.k∧o.k≤5)∧rangeI o.a=true∧rangeI o.b=true∧rangeI o.c=true∧(o.k=5→condOk o.cond=true):=by
 unfold selOk at h
 simp only[Bool.and_eq_true,decide_eq_true_eq] at h
 obtain⟨⟨⟨⟨⟨⟨⟨h1,h2⟩,h3⟩,h4⟩,h5⟩,h6⟩,h7⟩,h8⟩:=h
 refine⟨⟨h1,h2⟩,h4,h5,h6,fun hk=>?_⟩
 rw[hk] at h8
 simpa using h8
theorem cond_tree {ops:List PFOp} (h:condOk ops=true) : ∃ c,condR ops=some c∧GC c∧c.fl=ops∧cdT ops=c.txt∧ops.length≤1000:=by
 have h1:=condR_some ops
 rw[h] at h1
 obtain⟨c,hc⟩:=Option.isSome_iff_exists.1 h1
 obtain⟨g1,g2,_⟩:=condR_good hc
 refine⟨c,hc,g1,g2,by unfold cdT; rw[hc],?_⟩
 unfold condOk at h
 simp only[Bool.and_eq_true,decide_eq_true_eq] at h
 exact h.1.1
theorem opt_len {b:Bool} {x:List UInt8} {n:Nat} (h:x.length≤n) : (if b=true then x else []).length≤n:=by split; exact h; simp
theorem sliceT_len {o:PSel} (h:selOk o=true) : (sliceT o).length≤35:=by
 obtain⟨-,ha,hb,hc,-⟩:=sel_parts h
 have h1:=sdec_len ha
 have h2:=sdec_len hb
 have h3:=sdec_len hc
 unfold sliceT
 rw[List.length_append,List.length_cons,List.length_append]
 have e1:=opt_len (b:=o.hasA) h1
 have e2:=opt_len (b:=o.hasB) h2
 have e3:=opt_len (b:=o.hasC) (x:=58 :: sdec o.c) (n:=12) (by rw[List.length_cons]; omega)
 omega
theorem selT_len {o:PSel} (h:selOk o=true) : (selT o).length≤35+15*szSel o:=by
 have e:szSel o=o.name.size+szFops o.cond:=rfl
 have hp:=sel_parts h
 unfold selT
 split
 ·have:=quo_len o.name; omega
 ·split
  ·simp; omega
  ·split
   ·have:=sdec_len hp.2.1; omega
   ·split
    ·rename_i hk
     obtain⟨c,-,hg,hf,ht,-⟩:=cond_tree (hp.2.2.2.2 hk)
     have:=txt_len hg
     rw[hf] at this
     rw[ht,List.length_cons]
     omega
    ·have:=sliceT_len h; omega
theorem selsU_len:∀ (l:List PSel) (k:Nat),l.all selOk=true→k≤l.length→(selsU l k).length≤36*k+15*((l.take k).map szSel).sum
 | l,0,_,_=>by simp[selsU]
 | l,k+1,h,hk=>by
  have ih:=selsU_len l k h (by omega)
  have h1:=selT_len (List.all_eq_true.1 h _ (List.getElem_mem (show k < l.length by omega)))
  rw[selsU_next (by omega),List.length_append,List.length_cons,List.take_succ_eq_append_getElem (by omega),List.map_append,List.sum_append]
  simp only[List.map_cons,List.map_nil,List.sum_cons,List.sum_nil]
  omega
theorem sum_take {α:Type} (f:α→Nat) (l:List α) (k:Nat) : ((l.take k).map f).sum≤(l.map f).sum:=by
 have e:l.map f=(l.take k).map f++(l.drop k).map f:=by rw[← List.map_append,List.take_append_drop]
 rw[e,List.sum_append]; omega
theorem selsU_le {l:List PSel} {k:Nat} (h:l.all selOk=true) (hk:k≤l.length) : (selsU l k).length≤36*szSels l:=by
 have h1:=selsU_len l k h hk
 have h2:=sum_take szSel l k
 have e:szSels l=l.length+(l.map szSel).sum:=rfl
 omega
theorem segX_len {g:PSeg} (h:segOk g=true) : (segX g).length≤3+36*szSels g.sels:=by
 unfold segOk at h
 simp only[Bool.and_eq_true] at h
 have h1:=selsU_le h.2 (Nat.le_refl _)
 unfold segX deepT
 rw[List.length_append,List.length_append]
 have:=opt_len (b:=g.deep) (x:=[46,46]) (n:=2) (by simp)
 simp only[List.length_cons,List.length_nil]
 omega
theorem pathU_len:∀ (ms:List PSeg),ms.all segOk=true→(ms.flatMap segX).length≤36*szSegs ms
 | [],_=>by simp
 | g :: r,h=>by
  rw[List.all_cons,Bool.and_eq_true] at h
  have h1:=segX_len h.1
  have h2:=pathU_len r h.2
  have e1:szSegs (g :: r)=(g :: r).length+((g :: r).map szSeg).sum:=rfl
  have e2:szSegs r=r.length+(r.map szSeg).sum:=rfl
  have e3:szSeg g=szSels g.sels:=rfl
  rw[List.length_cons,List.map_cons,List.sum_cons] at e1
  rw[List.flatMap_cons,List.length_append]
  omega
theorem pathU_le {ms:List PSeg} (h:ms.all segOk=true) (i:Nat) : (pathU ms i).length≤1+36*szSegs ms:=by
 have h1:=pathU_len ms h
 have e:ms.flatMap segX=(ms.take i).flatMap segX++(ms.drop i).flatMap segX:=by rw[← List.flatMap_append,List.take_append_drop]
 rw[e,List.length_append] at h1
 unfold pathU
 rw[List.length_cons]
 omega
end Go.Proofs.YtkjcgkfejdogbaaGreatDoor
