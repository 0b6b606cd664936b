import Derived.Test.YtkjcgkfejdogbaaGreatDoorBz20
import Derived.Test.YtkjcgkfejdogbaaGreatDoorBz4
import Derived.Test.YtkjcgkfejdogbaaGreatDoorBz18
set_option maxRecDepth 100000
set_option maxHeartbeats 8000000
namespace Go.Proofs.YtkjcgkfejdogbaaGreatDoor
open Go.RowKit
theorem selText_walk (m:PSel) (v:Value) (bl:List Nat) (w:World) (h:ORow fopE w v m.cond bl) (hok:selOk m=true) (hs:szSel m≤1048576) :
  Calls Tryz.prog 20 #[.agg #[.int .i64 m.k,.string m.name,.bool m.hasA,.bool m.hasB,.bool m.hasC,.int .i64 m.a,.int .i64 m.b,.int .i64 m.c,v]] w fun e w'=>e = .returned (.string (strOf (selT m)))∧Below w.heap.size w w':=by
 obtain⟨hk,hra,hrb,hrc,hcd⟩:=sel_parts hok
 have hnz:m.name.size≤1048576:=by unfold szSel at hs; omega
 have hfz:szFops m.cond≤1048576:=by unfold szSel at hs; omega
 obtain⟨ad,cp,hv,-,-⟩:=h.form
 have HQ:Hid (∀ wx,Calls Tryz.prog 37 #[.string m.name] wx fun e w'=>e = .returned (.string (strOf (quo m.name)))∧Below wx.heap.size wx w'):=fun wx=>quo_walk _ wx hnz
 have HDa:Hid (∀ wx,Calls Tryz.prog 38 #[.int .i64 m.a] wx fun e w'=>e = .returned (.string (strOf (sdec m.a)))∧Below wx.heap.size wx w'):=fun wx=>sdec_walk _ wx hra
 have HDb:Hid (∀ wx,Calls Tryz.prog 38 #[.int .i64 m.b] wx fun e w'=>e = .returned (.string (strOf (sdec m.b)))∧Below wx.heap.size wx w'):=fun wx=>sdec_walk _ wx hrb
 have HDc:Hid (∀ wx,Calls Tryz.prog 38 #[.int .i64 m.c] wx fun e w'=>e = .returned (.string (strOf (sdec m.c)))∧Below wx.heap.size wx w'):=fun wx=>sdec_walk _ wx hrc
 have HCT:Hid (m.k=5→(∀ wx,Below w.heap.size w wx→Calls Tryz.prog 39 #[v,.int .i64 ((m.cond.length:Int) - 1)] wx fun e w'=>e = .returned (.string (strOf (cdT m.cond)))∧Below wx.heap.size wx w')∧(strOf (cdT m.cond)).size≤20000000∧m.cond.length≤1000):=fun e=>by
  obtain⟨ct,hc1,hg,hf,ht,hl⟩:=cond_tree (hcd e)
  refine⟨fun wx hx=>?_,?_,hl⟩
  ·have:=condText_walk m.cond bl hl hfz hg [] [] (by rw[hf]; simp) v wx (h.below hx)
   rw[hf] at this
   rw[ht]
   simpa using this
  ·rw[ht,strOf_size]
   have:=txt_len hg
   rw[hf] at this
   omega
 have la:(strOf (sdec m.a)).size≤11:=by rw[strOf_size]; exact sdec_len hra
 have lb:(strOf (sdec m.b)).size≤11:=by rw[strOf_size]; exact sdec_len hrb
 have lc:(strOf (sdec m.c)).size≤11:=by rw[strOf_size]; exact sdec_len hrc
 have HB:Hid (∀ o,Below w.heap.size w (w.alloc o)):=fun o=>alloc_b w o
 have HT:Hid (selT m=if m.k=1 then quo m.name else if m.k=2 then [42] else if m.k=3 then sdec m.a else if m.k=5 then 63 :: cdT m.cond else (if m.hasA=true then sdec m.a else [])++(58 :: ((if m.hasB=true then sdec m.b else [])++(if m.hasC=true then 58 :: sdec m.c else [])))):=rfl
 subst hv
 clear h hok hs hcd hra hrb hrc hnz hfz
 generalize selT m=ST at *
 obtain⟨K,name,ha,hb,hc,a,b,c,cond⟩:=m
 simp only at *
 rcases (show K=1∨K=2∨K=3∨K=5∨K=4 by omega) with rfl | rfl | rfl | rfl | rfl
 ·skip
  clear hk HCT
  have HV:Hid (ST=quo name):=by show _=_; rw[uh HT]; rfl
  clear HT
  go_enter Tryz.func20,Tryz.ntmps20
  go_wp2_with fail
  refine (uh HQ _).mono ?_
  rintro e w2 ⟨rfl,b2⟩
  have HB2:=hide (below_next (uh HB _) b2)
  clear b2
  go_wp2
  go_ret
  exact⟨by rw[uh HV]; rfl,uh HB2⟩
 ·skip
  clear hk HCT
  have HV:Hid (ST=[42]):=by show _=_; rw[uh HT]; rfl
  clear HT
  go_enter Tryz.func20,Tryz.ntmps20
  go_wp2
  go_ret
  exact⟨by rw[uh HV]; rfl,uh HB _⟩
 ·skip
  clear hk HCT
  have HV:Hid (ST=sdec a):=by show _=_; rw[uh HT]; rfl
  clear HT
  go_enter Tryz.func20,Tryz.ntmps20
  go_wp2_with fail
  refine (uh HDa _).mono ?_
  rintro e w2 ⟨rfl,b2⟩
  have HB2:=hide (below_next (uh HB _) b2)
  clear b2
  go_wp2
  go_ret
  exact⟨by rw[uh HV]; rfl,uh HB2⟩
 ·skip
  clear hk
  obtain⟨hct,hcz,hcl⟩:=uh HCT rfl
  have HV:Hid (strOf ST=⟨#[63]⟩++strOf (cdT cond)):=by
   show _=_
   rw[show (⟨#[63]⟩ : ByteArray)=strOf [63] from rfl,strOf_app,uh HT]
   rfl
  have HC2:=hide (hct _ (alloc_b w (Obj.cells #[.int .i64 5,.string name,.bool ha,.bool hb,.bool hc,.int .i64 a,.int .i64 b,.int .i64 c,.slice ad cond.length cp] 40 (0,0))))
  have hclI:(cond.length:Int)≤1000:=by omega
  clear HT HCT hct hcl
  generalize strOf (cdT cond)=V at *
  generalize strOf ST=SV at *
  have z1:(9223372036854775807 < 1+V.size)=False:=eq_false (by omega)
  clear hcz
  go_enter Tryz.func20,Tryz.ntmps20
  go_wp2_with fail
  refine (uh HC2).mono ?_
  rintro e w2 ⟨rfl,b2⟩
  have HB2:=hide (below_next (uh HB _) b2)
  clear b2 HC2
  go_wp2
  go_ret
  exact⟨by rw[uh HV]; rfl,uh HB2⟩
 ·cases ha with
  | true=>
   cases hb with
   | true=>
    cases hc with
    | true=>
     clear hk HCT
     have HV:Hid (strOf ST=((((strOf (sdec a)++⟨#[58]⟩)++strOf (sdec b))++⟨#[58]⟩)++strOf (sdec c))):=by
      show _=_
      rw[show (⟨#[58]⟩ : ByteArray)=strOf [58] from rfl,strOf_app,strOf_app,strOf_app,strOf_app,uh HT]
      simp
     clear HT
     have h0:=heap_alloc_new w (Obj.cells #[.int .i64 4,.string name,.bool true,.bool true,.bool true,.int .i64 a,.int .i64 b,.int .i64 c,.slice ad cond.length cp] 40 (0,0))
     have HBX:Hid (∀ w',Below w.heap.size (w.alloc (Obj.cells #[.int .i64 4,.string name,.bool true,.bool true,.bool true,.int .i64 a,.int .i64 b,.int .i64 c,.slice ad cond.length cp] 40 (0,0))) w'→True):=fun _ _=>trivial
     clear HBX
     have HCC:Hid (∀ w',Below (w.alloc (Obj.cells #[.int .i64 4,.string name,.bool true,.bool true,.bool true,.int .i64 a,.int .i64 b,.int .i64 c,.slice ad cond.length cp] 40 (0,0))).heap.size (w.alloc (Obj.cells #[.int .i64 4,.string name,.bool true,.bool true,.bool true,.int .i64 a,.int .i64 b,.int .i64 c,.slice ad cond.length cp] 40 (0,0))) w'→w'.cell? ⟨w.heap.size,3,none⟩=some (.bool true)∧w'.cell? ⟨w.heap.size,4,none⟩=some (.bool true)∧w'.cell? ⟨w.heap.size,6,none⟩=some (.int .i64 b)∧w'.cell? ⟨w.heap.size,7,none⟩=some (.int .i64 c)):=fun w' hx=>by
      have h2:=(hx.block _ (Array.getElem?_eq_some_iff.1 h0).1).trans h0
      exact⟨Lib.cell_of_heap h2 3,Lib.cell_of_heap h2 4,Lib.cell_of_heap h2 6,Lib.cell_of_heap h2 7⟩
     clear h0
     generalize strOf (sdec a)=VA at *
     generalize strOf (sdec b)=VB at *
     generalize strOf (sdec c)=VC at *
     generalize strOf ST=SV at *
     have z0:(9223372036854775807 < VA.size+1)=False:=eq_false (by omega)
     have z1:(9223372036854775807 < VA.size+1+VB.size)=False:=eq_false (by omega)
     have z2:(9223372036854775807 < VA.size+1+VB.size+1)=False:=eq_false (by omega)
     have z3:(9223372036854775807 < VA.size+1+VB.size+1+VC.size)=False:=eq_false (by omega)
     clear la lb lc
     go_enter Tryz.func20,Tryz.ntmps20
     go_wp2_with fail
     refine (uh HDa _).mono ?_
     rintro e w2 ⟨rfl,b2⟩
     have HX2:=hide b2
     obtain⟨p13,p14,p16,p17⟩:=uh HCC _ (uh HX2)
     clear b2
     go_wp2_with fail
     refine (uh HDb _).mono ?_
     rintro e w3 ⟨rfl,b3⟩
     have HX3:=hide (below_next (uh HX2) b3)
     obtain⟨p23,p24,p26,p27⟩:=uh HCC _ (uh HX3)
     clear b3
     go_wp2_with fail
     refine (uh HDc _).mono ?_
     rintro e w4 ⟨rfl,b4⟩
     have HX4:=hide (below_next (uh HX3) b4)
     obtain⟨p33,p34,p36,p37⟩:=uh HCC _ (uh HX4)
     clear b4
     go_wp2
     go_ret
     exact⟨by rw[uh HV]; rfl,below_next (uh HB _) (uh HX4)⟩
    | false=>
     clear hk HCT
     have HV:Hid (strOf ST=((strOf (sdec a)++⟨#[58]⟩)++strOf (sdec b))):=by
      show _=_
      rw[show (⟨#[58]⟩ : ByteArray)=strOf [58] from rfl,strOf_app,strOf_app,uh HT]
      simp
     clear HT
     have h0:=heap_alloc_new w (Obj.cells #[.int .i64 4,.string name,.bool true,.bool true,.bool false,.int .i64 a,.int .i64 b,.int .i64 c,.slice ad cond.length cp] 40 (0,0))
     have HBX:Hid (∀ w',Below w.heap.size (w.alloc (Obj.cells #[.int .i64 4,.string name,.bool true,.bool true,.bool false,.int .i64 a,.int .i64 b,.int .i64 c,.slice ad cond.length cp] 40 (0,0))) w'→True):=fun _ _=>trivial
     clear HBX
     have HCC:Hid (∀ w',Below (w.alloc (Obj.cells #[.int .i64 4,.string name,.bool true,.bool true,.bool false,.int .i64 a,.int .i64 b,.int .i64 c,.slice ad cond.length cp] 40 (0,0))).heap.size (w.alloc (Obj.cells #[.int .i64 4,.string name,.bool true,.bool true,.bool false,.int .i64 a,.int .i64 b,.int .i64 c,.slice ad cond.length cp] 40 (0,0))) w'→w'.cell? ⟨w.heap.size,3,none⟩=some (.bool true)∧w'.cell? ⟨w.heap.size,4,none⟩=some (.bool false)∧w'.cell? ⟨w.heap.size,6,none⟩=some (.int .i64 b)∧w'.cell? ⟨w.heap.size,7,none⟩=some (.int .i64 c)):=fun w' hx=>by
      have h2:=(hx.block _ (Array.getElem?_eq_some_iff.1 h0).1).trans h0
      exact⟨Lib.cell_of_heap h2 3,Lib.cell_of_heap h2 4,Lib.cell_of_heap h2 6,Lib.cell_of_heap h2 7⟩
     clear h0
     generalize strOf (sdec a)=VA at *
     generalize strOf (sdec b)=VB at *
     generalize strOf (sdec c)=VC at *
     generalize strOf ST=SV at *
     have z0:(9223372036854775807 < VA.size+1)=False:=eq_false (by omega)
     have z1:(9223372036854775807 < VA.size+1+VB.size)=False:=eq_false (by omega)
     clear la lb lc
     go_enter Tryz.func20,Tryz.ntmps20
     go_wp2_with fail
     refine (uh HDa _).mono ?_
     rintro e w2 ⟨rfl,b2⟩
     have HX2:=hide b2
     obtain⟨p13,p14,p16,p17⟩:=uh HCC _ (uh HX2)
     clear b2
     go_wp2_with fail
     refine (uh HDb _).mono ?_
     rintro e w3 ⟨rfl,b3⟩
     have HX3:=hide (below_next (uh HX2) b3)
     obtain⟨p23,p24,p26,p27⟩:=uh HCC _ (uh HX3)
     clear b3
     go_wp2
     go_ret
     exact⟨by rw[uh HV]; rfl,below_next (uh HB _) (uh HX3)⟩
   | false=>
    cases hc with
    | true=>
     clear hk HCT
     have HV:Hid (strOf ST=(((strOf (sdec a)++⟨#[58]⟩)++⟨#[58]⟩)++strOf (sdec c))):=by
      show _=_
      rw[show (⟨#[58]⟩ : ByteArray)=strOf [58] from rfl,strOf_app,strOf_app,strOf_app,uh HT]
      simp
     clear HT
     have h0:=heap_alloc_new w (Obj.cells #[.int .i64 4,.string name,.bool true,.bool false,.bool true,.int .i64 a,.int .i64 b,.int .i64 c,.slice ad cond.length cp] 40 (0,0))
     have HBX:Hid (∀ w',Below w.heap.size (w.alloc (Obj.cells #[.int .i64 4,.string name,.bool true,.bool false,.bool true,.int .i64 a,.int .i64 b,.int .i64 c,.slice ad cond.length cp] 40 (0,0))) w'→True):=fun _ _=>trivial
     clear HBX
     have HCC:Hid (∀ w',Below (w.alloc (Obj.cells #[.int .i64 4,.string name,.bool true,.bool false,.bool true,.int .i64 a,.int .i64 b,.int .i64 c,.slice ad cond.length cp] 40 (0,0))).heap.size (w.alloc (Obj.cells #[.int .i64 4,.string name,.bool true,.bool false,.bool true,.int .i64 a,.int .i64 b,.int .i64 c,.slice ad cond.length cp] 40 (0,0))) w'→w'.cell? ⟨w.heap.size,3,none⟩=some (.bool false)∧w'.cell? ⟨w.heap.size,4,none⟩=some (.bool true)∧w'.cell? ⟨w.heap.size,6,none⟩=some (.int .i64 b)∧w'.cell? ⟨w.heap.size,7,none⟩=some (.int .i64 c)):=fun w' hx=>by
      have h2:=(hx.block _ (Array.getElem?_eq_some_iff.1 h0).1).trans h0
      exact⟨Lib.cell_of_heap h2 3,Lib.cell_of_heap h2 4,Lib.cell_of_heap h2 6,Lib.cell_of_heap h2 7⟩
     clear h0
     generalize strOf (sdec a)=VA at *
     generalize strOf (sdec b)=VB at *
     generalize strOf (sdec c)=VC at *
     generalize strOf ST=SV at *
     have z0:(9223372036854775807 < VA.size+1)=False:=eq_false (by omega)
     have z1:(9223372036854775807 < VA.size+1+1)=False:=eq_false (by omega)
     have z2:(9223372036854775807 < VA.size+1+1+VC.size)=False:=eq_false (by omega)
     clear la lb lc
     go_enter Tryz.func20,Tryz.ntmps20
     go_wp2_with fail
     refine (uh HDa _).mono ?_
     rintro e w2 ⟨rfl,b2⟩
     have HX2:=hide b2
     obtain⟨p13,p14,p16,p17⟩:=uh HCC _ (uh HX2)
     clear b2
     go_wp2_with fail
     refine (uh HDc _).mono ?_
     rintro e w3 ⟨rfl,b3⟩
     have HX3:=hide (below_next (uh HX2) b3)
     obtain⟨p23,p24,p26,p27⟩:=uh HCC _ (uh HX3)
     clear b3
     go_wp2
     go_ret
     exact⟨by rw[uh HV]; rfl,below_next (uh HB _) (uh HX3)⟩
    | false=>
     clear hk HCT
     have HV:Hid (strOf ST=(strOf (sdec a)++⟨#[58]⟩)):=by
      show _=_
      rw[show (⟨#[58]⟩ : ByteArray)=strOf [58] from rfl,strOf_app,uh HT]
      simp
     clear HT
     have h0:=heap_alloc_new w (Obj.cells #[.int .i64 4,.string name,.bool true,.bool false,.bool false,.int .i64 a,.int .i64 b,.int .i64 c,.slice ad cond.length cp] 40 (0,0))
     have HBX:Hid (∀ w',Below w.heap.size (w.alloc (Obj.cells #[.int .i64 4,.string name,.bool true,.bool false,.bool false,.int .i64 a,.int .i64 b,.int .i64 c,.slice ad cond.length cp] 40 (0,0))) w'→True):=fun _ _=>trivial
     clear HBX
     have HCC:Hid (∀ w',Below (w.alloc (Obj.cells #[.int .i64 4,.string name,.bool true,.bool false,.bool false,.int .i64 a,.int .i64 b,.int .i64 c,.slice ad cond.length cp] 40 (0,0))).heap.size (w.alloc (Obj.cells #[.int .i64 4,.string name,.bool true,.bool false,.bool false,.int .i64 a,.int .i64 b,.int .i64 c,.slice ad cond.length cp] 40 (0,0))) w'→w'.cell? ⟨w.heap.size,3,none⟩=some (.bool false)∧w'.cell? ⟨w.heap.size,4,none⟩=some (.bool false)∧w'.cell? ⟨w.heap.size,6,none⟩=some (.int .i64 b)∧w'.cell? ⟨w.heap.size,7,none⟩=some (.int .i64 c)):=fun w' hx=>by
      have h2:=(hx.block _ (Array.getElem?_eq_some_iff.1 h0).1).trans h0
      exact⟨Lib.cell_of_heap h2 3,Lib.cell_of_heap h2 4,Lib.cell_of_heap h2 6,Lib.cell_of_heap h2 7⟩
     clear h0
     generalize strOf (sdec a)=VA at *
     generalize strOf (sdec b)=VB at *
     generalize strOf (sdec c)=VC at *
     generalize strOf ST=SV at *
     have z0:(9223372036854775807 < VA.size+1)=False:=eq_false (by omega)
     clear la lb lc
     go_enter Tryz.func20,Tryz.ntmps20
     go_wp2_with fail
     refine (uh HDa _).mono ?_
     rintro e w2 ⟨rfl,b2⟩
     have HX2:=hide b2
     obtain⟨p13,p14,p16,p17⟩:=uh HCC _ (uh HX2)
     clear b2
     go_wp2
     go_ret
     exact⟨by rw[uh HV]; rfl,below_next (uh HB _) (uh HX2)⟩
  | false=>
   cases hb with
   | true=>
    cases hc with
    | true=>
     clear hk HCT
     have HV:Hid (strOf ST=((((⟨#[]⟩++⟨#[58]⟩)++strOf (sdec b))++⟨#[58]⟩)++strOf (sdec c))):=by
      show _=_
      rw[show (⟨#[58]⟩ : ByteArray)=strOf [58] from rfl,show (⟨#[]⟩ : ByteArray)=strOf [] from rfl,strOf_app,strOf_app,strOf_app,strOf_app,uh HT]
      simp
     clear HT
     have h0:=heap_alloc_new w (Obj.cells #[.int .i64 4,.string name,.bool false,.bool true,.bool true,.int .i64 a,.int .i64 b,.int .i64 c,.slice ad cond.length cp] 40 (0,0))
     have HBX:Hid (∀ w',Below w.heap.size (w.alloc (Obj.cells #[.int .i64 4,.string name,.bool false,.bool true,.bool true,.int .i64 a,.int .i64 b,.int .i64 c,.slice ad cond.length cp] 40 (0,0))) w'→True):=fun _ _=>trivial
     clear HBX
     have HCC:Hid (∀ w',Below (w.alloc (Obj.cells #[.int .i64 4,.string name,.bool false,.bool true,.bool true,.int .i64 a,.int .i64 b,.int .i64 c,.slice ad cond.length cp] 40 (0,0))).heap.size (w.alloc (Obj.cells #[.int .i64 4,.string name,.bool false,.bool true,.bool true,.int .i64 a,.int .i64 b,.int .i64 c,.slice ad cond.length cp] 40 (0,0))) w'→w'.cell? ⟨w.heap.size,3,none⟩=some (.bool true)∧w'.cell? ⟨w.heap.size,4,none⟩=some (.bool true)∧w'.cell? ⟨w.heap.size,6,none⟩=some (.int .i64 b)∧w'.cell? ⟨w.heap.size,7,none⟩=some (.int .i64 c)):=fun w' hx=>by
      have h2:=(hx.block _ (Array.getElem?_eq_some_iff.1 h0).1).trans h0
      exact⟨Lib.cell_of_heap h2 3,Lib.cell_of_heap h2 4,Lib.cell_of_heap h2 6,Lib.cell_of_heap h2 7⟩
     clear h0
     generalize strOf (sdec a)=VA at *
     generalize strOf (sdec b)=VB at *
     generalize strOf (sdec c)=VC at *
     generalize strOf ST=SV at *
     have z0:(9223372036854775807 < 1+VB.size)=False:=eq_false (by omega)
     have z1:(9223372036854775807 < 1+VB.size+1)=False:=eq_false (by omega)
     have z2:(9223372036854775807 < 1+VB.size+1+VC.size)=False:=eq_false (by omega)
     clear la lb lc
     go_enter Tryz.func20,Tryz.ntmps20
     go_wp2_with fail
     refine (uh HDb _).mono ?_
     rintro e w2 ⟨rfl,b2⟩
     have HX2:=hide b2
     obtain⟨p13,p14,p16,p17⟩:=uh HCC _ (uh HX2)
     clear b2
     go_wp2_with fail
     refine (uh HDc _).mono ?_
     rintro e w3 ⟨rfl,b3⟩
     have HX3:=hide (below_next (uh HX2) b3)
     obtain⟨p23,p24,p26,p27⟩:=uh HCC _ (uh HX3)
     clear b3
     go_wp2
     go_ret
     exact⟨by rw[uh HV]; rfl,below_next (uh HB _) (uh HX3)⟩
    | false=>
     clear hk HCT
     have HV:Hid (strOf ST=((⟨#[]⟩++⟨#[58]⟩)++strOf (sdec b))):=by
      show _=_
      rw[show (⟨#[58]⟩ : ByteArray)=strOf [58] from rfl,show (⟨#[]⟩ : ByteArray)=strOf [] from rfl,strOf_app,strOf_app,uh HT]
      simp
     clear HT
     have h0:=heap_alloc_new w (Obj.cells #[.int .i64 4,.string name,.bool false,.bool true,.bool false,.int .i64 a,.int .i64 b,.int .i64 c,.slice ad cond.length cp] 40 (0,0))
     have HBX:Hid (∀ w',Below w.heap.size (w.alloc (Obj.cells #[.int .i64 4,.string name,.bool false,.bool true,.bool false,.int .i64 a,.int .i64 b,.int .i64 c,.slice ad cond.length cp] 40 (0,0))) w'→True):=fun _ _=>trivial
     clear HBX
     have HCC:Hid (∀ w',Below (w.alloc (Obj.cells #[.int .i64 4,.string name,.bool false,.bool true,.bool false,.int .i64 a,.int .i64 b,.int .i64 c,.slice ad cond.length cp] 40 (0,0))).heap.size (w.alloc (Obj.cells #[.int .i64 4,.string name,.bool false,.bool true,.bool false,.int .i64 a,.int .i64 b,.int .i64 c,.slice ad cond.length cp] 40 (0,0))) w'→w'.cell? ⟨w.heap.size,3,none⟩=some (.bool true)∧w'.cell? ⟨w.heap.size,4,none⟩=some (.bool false)∧w'.cell? ⟨w.heap.size,6,none⟩=some (.int .i64 b)∧w'.cell? ⟨w.heap.size,7,none⟩=some (.int .i64 c)):=fun w' hx=>by
      have h2:=(hx.block _ (Array.getElem?_eq_some_iff.1 h0).1).trans h0
      exact⟨Lib.cell_of_heap h2 3,Lib.cell_of_heap h2 4,Lib.cell_of_heap h2 6,Lib.cell_of_heap h2 7⟩
     clear h0
     generalize strOf (sdec a)=VA at *
     generalize strOf (sdec b)=VB at *
     generalize strOf (sdec c)=VC at *
     generalize strOf ST=SV at *
     have z0:(9223372036854775807 < 1+VB.size)=False:=eq_false (by omega)
     clear la lb lc
     go_enter Tryz.func20,Tryz.ntmps20
     go_wp2_with fail
     refine (uh HDb _).mono ?_
     rintro e w2 ⟨rfl,b2⟩
     have HX2:=hide b2
     obtain⟨p13,p14,p16,p17⟩:=uh HCC _ (uh HX2)
     clear b2
     go_wp2
     go_ret
     exact⟨by rw[uh HV]; rfl,below_next (uh HB _) (uh HX2)⟩
   | false=>
    cases hc with
    | true=>
     clear hk HCT
     have HV:Hid (strOf ST=(((⟨#[]⟩++⟨#[58]⟩)++⟨#[58]⟩)++strOf (sdec c))):=by
      show _=_
      rw[show (⟨#[58]⟩ : ByteArray)=strOf [58] from rfl,show (⟨#[]⟩ : ByteArray)=strOf [] from rfl,strOf_app,strOf_app,strOf_app,uh HT]
      simp
     clear HT
     have h0:=heap_alloc_new w (Obj.cells #[.int .i64 4,.string name,.bool false,.bool false,.bool true,.int .i64 a,.int .i64 b,.int .i64 c,.slice ad cond.length cp] 40 (0,0))
     have HBX:Hid (∀ w',Below w.heap.size (w.alloc (Obj.cells #[.int .i64 4,.string name,.bool false,.bool false,.bool true,.int .i64 a,.int .i64 b,.int .i64 c,.slice ad cond.length cp] 40 (0,0))) w'→True):=fun _ _=>trivial
     clear HBX
     have HCC:Hid (∀ w',Below (w.alloc (Obj.cells #[.int .i64 4,.string name,.bool false,.bool false,.bool true,.int .i64 a,.int .i64 b,.int .i64 c,.slice ad cond.length cp] 40 (0,0))).heap.size (w.alloc (Obj.cells #[.int .i64 4,.string name,.bool false,.bool false,.bool true,.int .i64 a,.int .i64 b,.int .i64 c,.slice ad cond.length cp] 40 (0,0))) w'→w'.cell? ⟨w.heap.size,3,none⟩=some (.bool false)∧w'.cell? ⟨w.heap.size,4,none⟩=some (.bool true)∧w'.cell? ⟨w.heap.size,6,none⟩=some (.int .i64 b)∧w'.cell? ⟨w.heap.size,7,none⟩=some (.int .i64 c)):=fun w' hx=>by
      have h2:=(hx.block _ (Array.getElem?_eq_some_iff.1 h0).1).trans h0
      exact⟨Lib.cell_of_heap h2 3,Lib.cell_of_heap h2 4,Lib.cell_of_heap h2 6,Lib.cell_of_heap h2 7⟩
     clear h0
     generalize strOf (sdec a)=VA at *
     generalize strOf (sdec b)=VB at *
     generalize strOf (sdec c)=VC at *
     generalize strOf ST=SV at *
     have z0:(9223372036854775807 < 1+1)=False:=eq_false (by omega)
     have z1:(9223372036854775807 < 1+1+VC.size)=False:=eq_false (by omega)
     clear la lb lc
     go_enter Tryz.func20,Tryz.ntmps20
     go_wp2_with fail
     refine (uh HDc _).mono ?_
     rintro e w2 ⟨rfl,b2⟩
     have HX2:=hide b2
     obtain⟨p13,p14,p16,p17⟩:=uh HCC _ (uh HX2)
     clear b2
     go_wp2
     go_ret
     exact⟨by rw[uh HV]; rfl,below_next (uh HB _) (uh HX2)⟩
    | false=>
     clear hk HCT
     have HV:Hid (strOf ST=(⟨#[]⟩++⟨#[58]⟩)):=by
      show _=_
      rw[show (⟨#[58]⟩ : ByteArray)=strOf [58] from rfl,show (⟨#[]⟩ : ByteArray)=strOf [] from rfl,strOf_app,uh HT]
      simp
     clear HT
     have h0:=heap_alloc_new w (Obj.cells #[.int .i64 4,.string name,.bool false,.bool false,.bool false,.int .i64 a,.int .i64 b,.int .i64 c,.slice ad cond.length cp] 40 (0,0))
     have HBX:Hid (∀ w',Below w.heap.size (w.alloc (Obj.cells #[.int .i64 4,.string name,.bool false,.bool false,.bool false,.int .i64 a,.int .i64 b,.int .i64 c,.slice ad cond.length cp] 40 (0,0))) w'→True):=fun _ _=>trivial
     clear HBX
     have HCC:Hid (∀ w',Below (w.alloc (Obj.cells #[.int .i64 4,.string name,.bool false,.bool false,.bool false,.int .i64 a,.int .i64 b,.int .i64 c,.slice ad cond.length cp] 40 (0,0))).heap.size (w.alloc (Obj.cells #[.int .i64 4,.string name,.bool false,.bool false,.bool false,.int .i64 a,.int .i64 b,.int .i64 c,.slice ad cond.length cp] 40 (0,0))) w'→w'.cell? ⟨w.heap.size,3,none⟩=some (.bool false)∧w'.cell? ⟨w.heap.size,4,none⟩=some (.bool false)∧w'.cell? ⟨w.heap.size,6,none⟩=some (.int .i64 b)∧w'.cell? ⟨w.heap.size,7,none⟩=some (.int .i64 c)):=fun w' hx=>by
      have h2:=(hx.block _ (Array.getElem?_eq_some_iff.1 h0).1).trans h0
      exact⟨Lib.cell_of_heap h2 3,Lib.cell_of_heap h2 4,Lib.cell_of_heap h2 6,Lib.cell_of_heap h2 7⟩
     clear h0
     generalize strOf (sdec a)=VA at *
     generalize strOf (sdec b)=VB at *
     generalize strOf (sdec c)=VC at *
     generalize strOf ST=SV at *
     clear la lb lc
     go_enter Tryz.func20,Tryz.ntmps20
     go_wp2
     go_ret
     exact⟨by rw[uh HV]; rfl,uh HB _⟩
theorem pt_step {a b x:List UInt8} (c:UInt8) (h:b=a++(c :: x)) : strOf b=(strOf a++strOf [c])++strOf x:=by
 rw[strOf_app,strOf_app,h]; simp
theorem specPathText_walk (v:Value) (ms:List PSeg) (bl:List Nat) (w:World) (h:ORow segE w v ms bl) (hs:szSegs ms≤1048576) :
  Calls Tryz.prog 8 #[v] w fun e w'=>e = .returned (.tuple #[.string (ptV ms).1,.bool (ptV ms).2])∧Below w.heap.size w w':=by
 have HOK:=hide (specPathOk_walk v ms bl w h.toT hs)
 obtain⟨a,c,rfl,-,hxa⟩:=h.form
 cases hp:pathOk ms with
 | false=>
  have HV:Hid (ptV ms=(⟨#[]⟩,false)):=by show _=_; unfold ptV; rw[hp]; rfl
  rw[hp] at HOK
  clear h hxa hs hp
  go_enter Tryz.func8,Tryz.ntmps8
  go_wp2_with fail
  refine (uh HOK).mono ?_
  rintro e w1 ⟨rfl,b1⟩
  have HB:=hide b1
  clear HOK b1
  go_wp2
  go_ret2
  exact⟨by rw[uh HV]; rfl,uh HB⟩
 | true=>
 rw[hp] at HOK
 have hpo:=hp
 unfold pathOk at hpo
 simp only[Bool.and_eq_true,decide_eq_true_eq] at hpo
 obtain⟨hlen,hall⟩:=hpo
 have hsg:∀ i (hi:i < ms.length),segOk ms[i]=true:=fun i hi=>List.all_eq_true.1 hall _ (List.getElem_mem hi)
 have hsa:∀ i (hi:i < ms.length),ms[i].sels.all selOk=true∧1≤ms[i].sels.length∧ms[i].sels.length≤1000:=fun i hi=>by
  have:=hsg i hi
  unfold segOk at this
  simp only[Bool.and_eq_true,decide_eq_true_eq] at this
  exact⟨this.2,this.1.1,this.1.2⟩
 have hsok:∀ i (hi:i < ms.length) k (hk:k < ms[i].sels.length),selOk ms[i].sels[k]=true:=fun i hi k hk=>List.all_eq_true.1 (hsa i hi).1 _ (List.getElem_mem hk)
 have HV:Hid (ptV ms=(strOf (pathU ms ms.length),true)):=by show _=_; unfold ptV; rw[hp]; rfl
 have HROW:Hid (∀ (wr:World) (i:Nat) (hi:i < ms.length),Below w.heap.size w wr→∃ g sa sc,a=some ⟨g,0,none⟩∧(∀ w',Below w.heap.size w w'→w'.cell? ⟨g,i*2,none⟩=some (.bool ms[i].deep)∧w'.cell? ⟨g,i*2+1,none⟩=some (.slice sa ms[i].sels.length sc)) ∧
   ∀ (w':World) (k:Nat) (hk:k < ms[i].sels.length),Below w.heap.size w w'→∃ g' q,sa=some ⟨g',0,none⟩∧w'.cell? ⟨g',k*9,none⟩=some (.int .i64 ms[i].sels[k].k)∧w'.cell? ⟨g',k*9+1,none⟩=some (.string ms[i].sels[k].name)∧w'.cell? ⟨g',k*9+2,none⟩=some (.bool ms[i].sels[k].hasA)∧w'.cell? ⟨g',k*9+3,none⟩=some (.bool ms[i].sels[k].hasB)∧w'.cell? ⟨g',k*9+4,none⟩=some (.bool ms[i].sels[k].hasC)∧w'.cell? ⟨g',k*9+5,none⟩=some (.int .i64 ms[i].sels[k].a)∧w'.cell? ⟨g',k*9+6,none⟩=some (.int .i64 ms[i].sels[k].b)∧w'.cell? ⟨g',k*9+7,none⟩=some (.int .i64 ms[i].sels[k].c)∧w'.cell? ⟨g',k*9+8,none⟩=some q ∧
    Calls Tryz.prog 20 #[.agg #[.int .i64 ms[i].sels[k].k,.string ms[i].sels[k].name,.bool ms[i].sels[k].hasA,.bool ms[i].sels[k].hasB,.bool ms[i].sels[k].hasC,.int .i64 ms[i].sels[k].a,.int .i64 ms[i].sels[k].b,.int .i64 ms[i].sels[k].c,q]] w' fun e w''=>e = .returned (.string (strOf (selT ms[i].sels[k])))∧Below w'.heap.size w' w''):=by
  intro wr i hi hb
  obtain⟨g,rfl⟩:=hxa (by omega)
  obtain⟨vs,ib,hE,hc,-,-,-⟩:=h.at (List.getElem?_eq_getElem hi)
  obtain⟨q,rfl,hr⟩:=hE
  obtain⟨sa,sc,rfl,-,hsx⟩:=hr.form
  refine⟨g,sa,sc,rfl,fun w' hb'=>?_,fun w' k hk hb'=>?_⟩
  ·have h0:=(hc 0 _ rfl).1
   have h1:=(hc 1 _ rfl).1
   exact⟨(hb'.cell (World.block_lt_of_cell? _ _ h0)).trans h0,(hb'.cell (World.block_lt_of_cell? _ _ h1)).trans h1⟩
  ·obtain⟨g',rfl⟩:=hsx (by omega)
   obtain⟨vs2,ib2,hE2,hc2,-,-,-⟩:=(hr.below hb').at (List.getElem?_eq_getElem hk)
   obtain⟨q2,rfl,hr2⟩:=hE2
   exact⟨g',q2,rfl,(hc2 0 _ rfl).1,(hc2 1 _ rfl).1,(hc2 2 _ rfl).1,(hc2 3 _ rfl).1,(hc2 4 _ rfl).1,(hc2 5 _ rfl).1,(hc2 6 _ rfl).1,(hc2 7 _ rfl).1,(hc2 8 _ rfl).1,selText_walk _ q2 ib2 w' hr2 (hsok i hi k hk) (sz_sel (sz_seg hs (List.getElem_mem hi)) (List.getElem_mem hk))⟩
 have HSL:Hid (∀ i (hi:i < ms.length),1≤ms[i].sels.length∧ms[i].sels.length≤1000):=fun i hi=>(hsa i hi).2
 have HST:Hid (∀ i (hi:i < ms.length),(pathU ms i++deepT ms[i]).length≤40000000∧(∀ k≤ms[i].sels.length,((pathU ms i++deepT ms[i])++selsU ms[i].sels k).length≤80000000)∧∀ k (hk:k < ms[i].sels.length),(selT ms[i].sels[k]).length≤20000000):=fun i hi=>by
  have h1:=pathU_le hall i
  have h2:(deepT ms[i]).length≤2:=opt_len (x:=[46,46]) (by simp)
  have hz:=sz_seg hs (List.getElem_mem hi)
  refine⟨by rw[List.length_append]; omega,fun k hk=>?_,fun k hk=>?_⟩
  ·have h3:=selsU_le (hsa i hi).1 hk
   rw[List.length_append,List.length_append]
   omega
  ·have h4:=selT_len (hsok i hi k hk)
   have h5:=sz_sel hz (List.getElem_mem hk)
   omega
 have HPN:Hid (∀ i (hi:i < ms.length),pathU ms (i+1)=pathU ms i++(deepT ms[i]++(selsU ms[i].sels ms[i].sels.length++[93]))):=fun i hi=>pathU_next hi
 have HU0:Hid (strOf (pathU ms 0)=⟨#[36]⟩):=rfl
 have HPL:Hid (∀ i,(strOf (pathU ms i)).size≤40000000):=fun i=>by rw[strOf_size]; have:=pathU_le hall i; omega
 have hlI:(ms.length:Int)≤1000:=by omega
 clear h hxa hs hall hsg hsa hsok hp
 go_enter Tryz.func8,Tryz.ntmps8
 go_wp2_with fail
 refine (uh HOK).mono ?_
 rintro e w0 ⟨rfl,b0⟩
 have HB0:=hide b0
 clear HOK b0
 go_wp2_with fail
 go_loopw [4,5] (fun ov iv wr=>∃ i:Nat,i≤ms.length∧Hid (ov = .string (strOf (pathU ms i)))∧iv = .int .i64 (i:Int)∧Below w.heap.size w wr) (fun _ i _=>ms.length - (intOf i).toNat)
 case atStart=>exact⟨0,by omega,by show _=_; rw[uh HU0],rfl,uh HB0⟩
 case round=>
  obtain⟨i,hi,hov,rfl,hb⟩:=hrel
  obtain rfl:=uh hov
  clear hov
  by_cases hlt:i < ms.length
  ·have hltI:(i:Int) < (ms.length:Int):=by omega
   obtain⟨g,sa,sc,rfl,hc1,hin⟩:=uh HROW _ i hlt hb
   have HC1:=hide hc1
   have HIN:=hide hin
   obtain⟨n1,n2⟩:=uh HSL i hlt
   obtain⟨s1,s2,s3⟩:=uh HST i hlt
   have HS2:=hide s2
   have HS3:=hide s3
   have HPX:=hide (uh HPN i hlt)
   have hpl:=uh HPL i
   have hsl:(strOf (pathU ms i++deepT ms[i])).size≤40000000:=by rw[strOf_size]; exact s1
   have HDP:Hid (ms[i].deep=true→strOf (pathU ms i++deepT ms[i])=strOf (pathU ms i)++⟨#[46,46]⟩):=fun e=>by
    rw[show (⟨#[46,46]⟩ : ByteArray)=strOf [46,46] from rfl,strOf_app]; unfold deepT; rw[if_pos e]
   have HDN:Hid (ms[i].deep=false→strOf (pathU ms i++deepT ms[i])=strOf (pathU ms i)):=fun e=>by
    unfold deepT; rw[e]; simp
   have HPZ:Hid (strOf (pathU ms (i+1))=strOf ((pathU ms i++deepT ms[i])++selsU ms[i].sels ms[i].sels.length)++⟨#[93]⟩):=by
    show _=_
    rw[show (⟨#[93]⟩ : ByteArray)=strOf [93] from rfl,strOf_app,uh HPX]; simp
   have HSN:Hid (∀ k (hk:k < ms[i].sels.length),strOf ((pathU ms i++deepT ms[i])++selsU ms[i].sels (k+1))=(strOf ((pathU ms i++deepT ms[i])++selsU ms[i].sels k)++strOf [if k=0 then 91 else 44])++strOf (selT ms[i].sels[k])):=fun k hk=>pt_step _ (by rw[selsU_next hk]; simp)
   have HS0:Hid (strOf (pathU ms i++deepT ms[i])=strOf ((pathU ms i++deepT ms[i])++selsU ms[i].sels 0)):=by show _=_; rw[selsU,List.append_nil]
   clear hc1 hin HROW HSL HST HPN s2 s3 s1 HPX
   have HE1:=hide (uh HC1 _ hb)
   have HBI:=hide hb
   clear hb
   generalize ms[i]=G at *
   obtain⟨W,hW⟩ : ∃ W:Nat→ByteArray,W=fun k=>strOf ((pathU ms i++deepT G)++selsU G.sels k):=⟨_,rfl⟩
   have hW':∀ k,strOf ((pathU ms i++deepT G)++selsU G.sels k)=W k:=fun k=>by rw[hW]
   have HWL:Hid (∀ k≤G.sels.length,(W k).size≤80000000):=fun k hk=>by rw[hW,strOf_size]; exact uh HS2 k hk
   simp only[hW'] at HPZ HSN HS0
   generalize strOf (pathU ms i++deepT G)=DD at *
   generalize strOf (pathU ms i)=PP at *
   clear hW hW' HS2
   have hslI:(G.sels.length:Int)≤1000:=by omega
   have z0:(9223372036854775807 < PP.size+2)=False:=eq_false (by omega)
   obtain⟨e0,e1⟩:=uh HE1
   have HSTEP:Hid (DD=W 0):=HS0
   cases hdp:G.deep
   all_goals
    rw[hdp] at e0
    go_wp2_with fail
    go_loopw [4,6] (fun ov kv w2=>∃ k:Nat,k≤G.sels.length∧Hid (ov = .string (W k))∧kv = .int .i64 (k:Int)∧Below w.heap.size w w2) (fun _ k _=>G.sels.length - (intOf k).toNat)
    case atStart=>exact⟨0,by omega,by show _=_; rw[← uh HSTEP]; first | rw[uh HDP hdp] | rw[uh HDN hdp],rfl,uh HBI⟩
    case round=>
     obtain⟨k,hk,hov,rfl,hb2⟩:=hrel
     obtain rfl:=uh hov
     clear hov
     obtain⟨f0,f1⟩:=uh HC1 _ hb2
     by_cases hlt2:k < G.sels.length
     ·have hlt2I:(k:Int) < (G.sels.length:Int):=by omega
      obtain⟨g',q,rfl,d0,d1,d2,d3,d4,d5,d6,d7,d8,hcall⟩:=uh HIN _ k hlt2 hb2
      have HC:=hide hcall
      have HBW:=hide hb2
      have hwl:=uh HWL k (by omega)
      have hsl2:(strOf (selT G.sels[k])).size≤20000000:=by rw[strOf_size]; exact uh HS3 k hlt2
      have HNX:=hide (uh HSN k hlt2)
      have z1:(9223372036854775807 < (W k).size+1)=False:=eq_false (by omega)
      have z2:(9223372036854775807 < (W k).size+1+(strOf (selT G.sels[k])).size)=False:=eq_false (by omega)
      clear hcall hb2 HSN HIN HS3 HC1 hsl2 hwl HWL
      generalize strOf (selT G.sels[k])=V at *
      generalize G.sels[k]=P at *
      by_cases hk0:(k:Int)=0
      ·have HNX2:Hid (W (k+1)=(W k++⟨#[91]⟩)++V):=by show _=_; rw[uh HNX,if_pos (by omega)]; rfl
       have hk0b:((k:Int) == 0)=true:=by simpa using hk0
       clear HNX hk0
       generalize W k=WK at *
       go_wp2_with fail
       refine (uh HC).mono ?_
       rintro e w1 ⟨rfl,b1⟩
       have HB2:=hide (below_next (uh HBW) b1)
       clear HC b1 HBW
       go_wp2
       go_roundw
       case rel=>exact⟨k+1,by omega,by show _=_; rw[uh HNX2],by go_num,uh HB2⟩
       case measure=>simp[intOf]; omega
      ·have HNX2:Hid (W (k+1)=(W k++⟨#[44]⟩)++V):=by show _=_; rw[uh HNX,if_neg (by omega)]; rfl
       have hk0b:((k:Int) == 0)=false:=by simpa using hk0
       clear HNX hk0
       generalize W k=WK at *
       go_wp2_with fail
       refine (uh HC).mono ?_
       rintro e w1 ⟨rfl,b1⟩
       have HB2:=hide (below_next (uh HBW) b1)
       clear HC b1 HBW
       go_wp2
       go_roundw
       case rel=>exact⟨k+1,by omega,by show _=_; rw[uh HNX2],by go_num,uh HB2⟩
       case measure=>simp[intOf]; omega
     ·have hke:k=G.sels.length:=by omega
      subst hke
      have HBW:=hide hb2
      have hwl:=uh HWL G.sels.length (Nat.le_refl _)
      have z1:(9223372036854775807 < (W G.sels.length).size+1)=False:=eq_false (by omega)
      clear hb2 HSN HIN HS3 HC1 hwl HWL
      generalize W G.sels.length=WK at *
      go_wp2
      go_roundw
      case rel=>exact⟨i+1,by omega,by show _=_; rw[uh HPZ],by go_num,uh HBW⟩
      case measure=>simp[intOf]; omega
  ·have hie:i=ms.length:=by omega
   subst hie
   have HBW:=hide hb
   clear hb HROW HSL HST HPN
   go_wp2
   go_ret2
   exact⟨by rw[uh HV]; rfl,uh HBW⟩
theorem dig_at {d:Nat} (h:d < 10) : (UInt8.ofNat (48+d)).toNat=48+d:=by
 rw[UInt8.toNat_ofNat']; omega
theorem decP (n:Nat) : (∀ c∈decT n,isDg c.toNat=true)∧digV (decT n)=n∧decT n≠[]∧(0 < n→(decT n).head?≠some 48):=by
 induction n using Nat.strongRecOn with
 | _ n ih=>
  by_cases h:n < 10
  ·rw[decT_lo h]
   have hv:=dig_at h
   refine⟨fun c hc=>?_,?_,by simp,fun h0 e=>?_⟩
   ·rw[List.mem_singleton] at hc
    subst hc
    rw[hv]; unfold isDg; simp; omega
   ·show 0*10+_=n
    rw[hv]; omega
   ·injection e with e
    have:=congrArg UInt8.toNat e
    rw[hv] at this
    have h48:(48:UInt8).toNat=48:=rfl
    omega
  ·obtain⟨a1,a2,a3,a4⟩:=ih (n / 10) (by omega)
   have hd:n % 10 < 10:=Nat.mod_lt _ (by omega)
   have hv:=dig_at hd
   rw[decT_hi h,decT_lo hd]
   refine⟨fun c hc=>?_,?_,by simp,fun h0=>?_⟩
   ·rcases List.mem_append.1 hc with hc | hc
    ·exact a1 c hc
    ·rw[List.mem_singleton] at hc
     subst hc
     rw[hv]; unfold isDg; simp; omega
   ·rw[digV_snoc,a2,hv]; omega
   ·have h4:=a4 (by omega)
    cases hq:decT (n / 10) with
    | nil=>exact absurd hq a3
    | cons x y=>rw[hq] at h4; exact h4
theorem dec_le:∀ (k n:Nat),n < 10 ^ (k+1)→(decT n).length≤k+1
 | 0,n,h=>by rw[decT_lo (by simpa using h)]; simp
 | k+1,n,h=>by
  by_cases h1:n < 10
  ·rw[decT_lo h1]; simp
  ·rw[decT_hi h1,decT_lo (Nat.mod_lt _ (by omega)),List.length_append]
   have:=dec_le k (n / 10) (by rw[Nat.pow_succ] at h; omega)
   simp
   omega
theorem sNat_dec {n:Nat} (h0:0 < n) (h1:n < 1000000000) : sNat (decT n)=true:=by
 obtain⟨a1,a2,a3,a4⟩:=decP n
 have h9:=dec_le 8 n (by simpa using h1)
 have hl:1≤(decT n).length:=by cases hq:decT n with | nil=>exact absurd hq a3 | cons x y=>simp
 unfold sNat
 simp only[Bool.and_eq_true,decide_eq_true_eq]
 exact⟨⟨⟨hl,h9⟩,List.all_eq_true.2 a1⟩,a4 h0⟩
theorem range_of {n:Int} (h:rangeI n=true) : -1000000000 < n∧n < 1000000000:=by
 unfold rangeI at h
 simpa using h
theorem sInt_sdec {n:Int} (h:rangeI n=true) : sInt (sdec n)=some n:=by
 obtain⟨h1,h2⟩:=range_of h
 unfold sdec
 by_cases hn:n < 0
 ·rw[if_pos hn,sInt_con,if_neg (by simp),if_pos rfl,if_pos (sNat_dec (by omega) (by omega)),(decP _).2.1]
  congr 1; omega
 ·rw[if_neg hn]
  by_cases h0:n=0
  ·subst h0; decide
  ·have hs:=sNat_dec (n:=n.toNat) (by omega) (by omega)
   have hp:=decP n.toNat
   have h48:=hp.2.2.2 (by omega)
   cases hq:decT n.toNat with
   | nil=>exact absurd hq hp.2.2.1
   | cons c r=>
    rw[hq] at hs h48
    have hc:=hp.1 c (by rw[hq]; simp)
    have hv:=hp.2.1
    rw[hq] at hv
    have hne:c≠45:=fun e=>by subst e; exact absurd hc (by decide)
    rw[sInt_con,if_neg (fun e=>h48 (by rw[e]; rfl)),if_neg hne,if_pos hs,hv]
    congr 1; omega
theorem pQ_quo:∀ (l:Bs),(∀ c∈l,32≤c.toNat)→∀ t,pQ (l.flatMap quoB++39 :: t)=some (l,t)
 | [],_,t=>by
  show pQ (39 :: t)=_
  rw[pQ_con,if_pos rfl]
 | c :: r,h,t=>by
  have ih:=pQ_quo r (fun x hx=>h x (List.mem_cons_of_mem _ hx)) t
  have hc:=h c (List.mem_cons_self ..)
  rw[List.flatMap_cons]
  by_cases hq:c=39∨c=92
  ·unfold quoB
   rw[if_pos hq]
   show pQ (92 :: c :: (r.flatMap quoB++39 :: t))=_
   rw[pQ_con,if_neg (by decide),if_pos rfl]
   simp only
   rw[if_pos hq,ih]; rfl
  ·have e:quoB c=[c]:=by unfold quoB; rw[if_neg hq]
   rw[e]
   show pQ (c :: (r.flatMap quoB++39 :: t))=_
   rw[pQ_con,if_neg (fun e=>hq (.inl e)),if_neg (fun e=>hq (.inr e)),if_neg (by omega),ih]; rfl
theorem bsT_back (s:ByteArray) : bsT s.data.toList=s:=by cases s; rfl
theorem plain_low {s:ByteArray} (h:plainT s=true) : ∀ c∈s.data.toList,32≤c.toNat:=by
 unfold plainT noLow at h
 rw[Bool.and_eq_true,List.all_eq_true] at h
 exact fun c hc=>of_decide_eq_true (h.1 c hc)
theorem pStr_quo {s:ByteArray} (h:plainT s=true) (t:Bs) : pStr (quo s++t)=some (s.data.toList,t):=by
 show (if (39:UInt8)=39 then pQ ((s.data.toList.flatMap quoB++[39])++t) else none)=_
 rw[if_pos rfl,List.append_assoc]
 exact pQ_quo _ (plain_low h) t
theorem emp_of {s:ByteArray} (h:empT s=true) : s=⟨#[]⟩:=by
 have:=(emp_iff s).1 h
 obtain⟨a⟩:=s
 congr 1
 exact Array.eq_empty_of_size_eq_zero this
theorem noDg93 (t:Bs) : NoDg (93 :: t):=fun c r e=>by injection e with e _; rw[← e]; decide
theorem pIn_st {p:PStep} (h:stepOk p=true) (t:Bs) : pIn ((if p.byI=true then sdec p.idx else quo p.name)++93 :: t)=some (p,93 :: t):=by
 obtain⟨byI,name,idx⟩:=p
 unfold stepOk at h
 cases byI with
 | true=>
  simp only[if_true,Bool.and_eq_true] at h ⊢
  have hs:=sInt_sdec h.2
  refine pIn_ext ?_ (noDg93 t)
  unfold sIn
  cases hq:sStr (sdec idx) with
  | some v=>rw[sStr_int hq] at hs; cases hs
  | none=>
   show (sInt (sdec idx)).map stIdx=_
   rw[hs,emp_of h.1]; rfl
 | false=>
  simp only[Bool.false_eq_true,if_false,Bool.and_eq_true,beq_iff_eq] at h ⊢
  have hp:=pStr_quo h.2 (93 :: t)
  show pIn (39 :: ((name.data.toList.flatMap quoB++[39])++93 :: t))=_
  rw[pIn_con,if_pos rfl]
  have hp':pStr (39 :: ((name.data.toList.flatMap quoB++[39])++93 :: t))=_:=hp
  rw[hp',h.1]
  show some (stName name.data.toList,_)=_
  unfold stName
  rw[bsT_back]
theorem pSteps_st:∀ (ps:List PStep),ps.all stepOk=true→∀ t:Bs,(∀ c r,t=c :: r→isStop c=false)→∀ m,ps.length < m→pSteps m (ps.flatMap stTx++t)=some (ps,t)
 | [],_,t,ht,m,hm=>by
  obtain⟨k,rfl⟩ : ∃ k,m=k+1:=⟨m - 1,by simp at hm; omega⟩
  show pSteps (k+1) t=_
  cases t with
  | nil=>exact pSteps_nil k
  | cons c r=>
   have h1:=ht c r rfl
   unfold isStop at h1
   simp at h1
   rw[pSteps_con,if_neg h1.1,if_neg h1.2]
 | p :: r,h,t,ht,m,hm=>by
  obtain⟨k,rfl⟩ : ∃ k,m=k+1:=⟨m - 1,by simp at hm; omega⟩
  rw[List.all_cons,Bool.and_eq_true] at h
  have ih:=pSteps_st r h.2 t ht k (by simp at hm; omega)
  have hp:=pIn_st h.1 (r.flatMap stTx++t)
  rw[List.flatMap_cons,List.append_assoc]
  have e:stTx p++(r.flatMap stTx++t)=91 :: ((if p.byI=true then sdec p.idx else quo p.name)++93 :: (r.flatMap stTx++t)):=by
   unfold stTx; simp
  rw[e,pSteps_con,if_neg (by decide),if_pos rfl,hp]
  simp only[if_true]
  rw[ih]; rfl
theorem st_len:∀ ps:List PStep,ps.length≤(ps.flatMap stTx).length
 | []=>Nat.le_refl _
 | p :: r=>by
  have:=st_len r
  rw[List.flatMap_cons,List.length_append,List.length_cons]
  have:1≤(stTx p).length:=by unfold stTx; simp
  omega
theorem pRef_ref {o:PFOp} (h:o.steps.all stepOk=true) {t:Bs} (ht:RefEnd t) : pRef (refT o++t)=some ((o.root,o.steps),t):=by
 have hp:=pSteps_st o.steps h t (fun c r e=>(ht c r e).1) ((o.steps.flatMap stTx++t).length+1) (by have:=st_len o.steps; rw[List.length_append]; omega)
 unfold refT
 cases hr:o.root with
 | true=>
  show (if (36:UInt8)=36∨(36:UInt8)=64 then (pSteps ((o.steps.flatMap stTx++t).length+1) (o.steps.flatMap stTx++t)).map fun p=>((decide ((36:UInt8)=36),p.1),p.2) else none)=_
  rw[if_pos (.inl rfl),hp]; rfl
 | false=>
  show (if (64:UInt8)=36∨(64:UInt8)=64 then (pSteps ((o.steps.flatMap stTx++t).length+1) (o.steps.flatMap stTx++t)).map fun p=>((decide ((64:UInt8)=36),p.1),p.2) else none)=_
  rw[if_pos (.inr rfl),hp]; rfl
theorem fop_of {o:PFOp} (h:fopOk o=true) : (1≤o.k∧o.k≤12)∧(isRefK o.k=false→o.root=false∧o.steps=[])∧o.steps.all stepOk=true∧(o.k≠2→o.s=⟨#[]⟩)∧numOk o.k o.n=true∧plainT o.s=true:=by
 unfold fopOk at h
 simp only[Bool.and_eq_true,decide_eq_true_eq] at h
 obtain⟨⟨⟨⟨⟨⟨⟨h1,h2⟩,h3⟩,h4⟩,h5⟩,h6⟩,h7⟩,h8⟩:=h
 refine⟨⟨h1,h2⟩,fun hr=>?_,h5,fun hk=>?_,h7,h8⟩
 ·rw[hr,Bool.false_or] at h4
  simp at h4
  exact⟨h4.1,h4.2⟩
 ·have:(o.k == 2)=false:=by simpa using hk
  rw[this,Bool.false_or] at h6
  exact emp_of h6
theorem num_of {k n:Int} (h:numOk k n=true) (h1:k≠1) (h9:k≠9) : n=0:=by
 unfold numOk at h
 rw[if_neg h1,if_neg h9] at h
 simpa using h
theorem opd_leaf {o:PFOp} (h:fopOk o=true) (hk:o.k≤7) {t:Bs} (ht:RefEnd t) : pOpd (leafT o++t)=some (o,t):=by
 obtain⟨⟨h1,-⟩,h2,h3,h4,h5,h6⟩:=fop_of h
 have href:∀ {t:Bs},RefEnd t→pRef (refT o++t)=some ((o.root,o.steps),t):=fun ht=>pRef_ref h3 ht
 obtain⟨k,n,s,root,steps⟩:=o
 simp only at *
 have hc:k=1∨k=2∨k=3∨k=4∨k=5∨k=6∨k=7:=by omega
 unfold leafT
 dsimp only
 rcases hc with rfl | rfl | rfl | rfl | rfl | rfl | rfl
 ·obtain⟨rfl,rfl⟩:=h2 rfl
  rw[if_pos rfl,h4 (by decide)]
  refine pOpd_ext ?_ ht
  unfold sOpd
  rw[sInt_sdec h5]; rfl
 ·obtain⟨rfl,rfl⟩:=h2 rfl
  rw[if_neg (by decide),if_pos rfl,num_of h5 (by decide) (by decide)]
  have hp:=pStr_quo h6 t
  have hp':pStr (39 :: ((s.data.toList.flatMap quoB++[39])++t))=_:=hp
  show pOpd (39 :: ((s.data.toList.flatMap quoB++[39])++t))=_
  rw[pOpd_con,if_pos rfl,hp']
  show some (opS s.data.toList,t)=_
  unfold opS
  rw[bsT_back]
 ·obtain⟨rfl,rfl⟩:=h2 rfl
  rw[if_neg (by decide),if_neg (by decide),if_pos rfl,h4 (by decide),num_of h5 (by decide) (by decide)]
  exact pOpd_ext opd_T ht
 ·obtain⟨rfl,rfl⟩:=h2 rfl
  rw[if_neg (by decide),if_neg (by decide),if_neg (by decide),if_pos rfl,h4 (by decide),num_of h5 (by decide) (by decide)]
  exact pOpd_ext opd_F ht
 ·obtain⟨rfl,rfl⟩:=h2 rfl
  rw[if_neg (by decide),if_neg (by decide),if_neg (by decide),if_neg (by decide),if_pos rfl,h4 (by decide),num_of h5 (by decide) (by decide)]
  exact pOpd_ext opd_N ht
 ·rw[if_neg (by decide),if_neg (by decide),if_neg (by decide),if_neg (by decide),if_neg (by decide),if_neg (by decide),h4 (by decide),num_of h5 (by decide) (by decide)]
  rw[h4 (by decide),num_of h5 (by decide) (by decide)] at href
  have hp:=href ht
  cases root with
  | true=>
   have hp':pRef (36 :: (steps.flatMap stTx++t))=_:=hp
   show pOpd (36 :: (steps.flatMap stTx++t))=_
   rw[pOpd_con,if_neg (by decide),if_neg (by decide),if_neg (by decide),if_neg (by decide),if_neg (by decide),if_pos (.inr rfl),hp']; rfl
  | false=>
   have hp':pRef (64 :: (steps.flatMap stTx++t))=_:=hp
   show pOpd (64 :: (steps.flatMap stTx++t))=_
   rw[pOpd_con,if_neg (by decide),if_neg (by decide),if_neg (by decide),if_neg (by decide),if_neg (by decide),if_pos (.inl rfl),hp']; rfl
 ·rw[if_neg (by decide),if_neg (by decide),if_neg (by decide),if_neg (by decide),if_neg (by decide),if_pos rfl,h4 (by decide),num_of h5 (by decide) (by decide)]
  rw[h4 (by decide),num_of h5 (by decide) (by decide)] at href
  have hp:=href (t:=41 :: t) (fun c r e=>by injection e with e _; rw[← e]; decide)
  generalize refT (⟨7,0,⟨#[]⟩,root,steps⟩ : PFOp)=x at hp ⊢
  have hw:pWd wdL (wdL++(x++41 :: t))=some (x++41 :: t):=pWd_app _ _
  have e:([108,101,110,103,116,104,40]++(x++[41]))++t=wdL++(x++41 :: t):=by
   show (wdL++(x++[41]))++t=_
   simp
  rw[e]
  have e2:wdL++(x++41 :: t)=108 :: ([101,110,103,116,104,40]++(x++41 :: t)):=rfl
  rw[e2] at hw ⊢
  rw[pOpd_con,if_neg (by decide),if_neg (by decide),if_neg (by decide),if_neg (by decide),if_pos rfl,hw]
  simp only
  rw[hp]
  simp only[if_true]
  rfl
end Go.Proofs.YtkjcgkfejdogbaaGreatDoor
