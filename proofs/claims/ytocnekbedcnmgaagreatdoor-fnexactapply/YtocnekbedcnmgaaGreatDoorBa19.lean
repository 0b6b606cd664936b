import Derived.Test.YtocnekbedcnmgaaGreatDoorBa18
import Derived.Test.YtocnekbedcnmgaaGreatDoorBa17
import Derived.Test.YtocnekbedcnmgaaGreatDoorBa6
import Derived.Test.YtocnekbedcnmgaaGreatDoorBa9
import Derived.Test.YtocnekbedcnmgaaGreatDoorBa5
set_option maxRecDepth 100000
set_option maxHeartbeats 8000000
namespace Go.Proofs.YtocnekbedcnmgaaGreatDoor
open Go.RowKit
theorem dropV_none {v:JV} {ts:List (List UInt8)} (h:getV v ts=none) : dropV v ts=none:=by
 rcases List.eq_nil_or_concat ts with rfl | ⟨xs,t,rfl⟩
 ·unfold dropV; rw[if_pos rfl]
 ·rw[List.concat_eq_append] at *
  rw[getV_app] at h
  unfold dropV chgV takeAt lastT
  rw[if_neg (by simp),List.dropLast_concat]
  cases hg:getV v xs with
  | none=>rfl
  | some hm=>
   rw[hg] at h
   have h':getV hm [t]=none:=h
   rw[getV_con] at h'
   cases hc:childV hm t with
   | none=>simp[hc]
   | some x=>rw[hc] at h'; have h2:getV x []=none:=h'; rw[getV_nil] at h2; cases h2
theorem do_removeN (v u:JV) (o:POp) (w:World) (hv:GdT v) (hl:(ct v).length≤100000) (hp:o.path.size≤1048576) (hs:o.src.size≤1048576) (hk:o.kind=2) (hg:getV v ((ptoks o.path.data.toList).getD [])=none) :
  Calls Tryz.prog 48 #[.string (strOf (ct v)),.agg (opCs o)] w fun e w'=>e = .returned (doR (doV v (xOf o u)))∧Below w.heap.size w w':=by
 obtain⟨hpn,hpt⟩:=toks_bnd o.path hp
 obtain⟨hsn,hst⟩:=toks_bnd o.src hs
 have hX:xOf o u=⟨o.kind,(ptoks o.path.data.toList).getD [],(ptoks o.src.data.toList).getD [],u⟩:=rfl
 have kA:=heap_alloc_new w (.cells (opCs o) 59)
 have bA:=alloc_below w (.cells (opCs o) 59)
 have hOA:OpIn (w.alloc (.cells (opCs o) 59)) w.heap.size o:=kA
 have HT1:=hide (specToks_walk o.path (w.alloc (.cells (opCs o) 59)) hp)
 have HT2:Hid (∀ wx,Calls Tryz.prog 93 #[.string o.src] wx fun e w'=>∃ v,e = .returned (.tuple #[v,.bool (ptoks o.src.data.toList).isSome])∧OT w' wx.heap.size v ((ptoks o.src.data.toList).getD [])∧Below wx.heap.size wx w'):=fun wx=>specToks_walk o.src wx hs
 have HOA:=hide hOA
 have HBA:=hide bA
 have hc:=hOA.c
 generalize (ptoks o.path.data.toList).isSome=ok1 at *
 generalize (ptoks o.src.data.toList).isSome=ok2 at *
 generalize (ptoks o.path.data.toList).getD []=ps at *
 generalize (ptoks o.src.data.toList).getD []=fs at *
 have HGP:Hid (∀ (a:Option Addr) (g cap:Nat) (wx:World),SS wx a g 0 (ps.map baT)→Calls Tryz.prog 94 #[.string (strOf (ct v)),.slice a ps.length cap] wx fun e w'=>e = .returned (getR v ps)∧Below wx.heap.size wx w'):=fun a g cap wx h=>get_walkS v hv.ok hv.tw (by omega) a g 0 cap ps wx h hpn hpt
 rw[getR_none hg] at HGP
 have HDO:Hid (doV v (xOf o u) = .inl 3):=by show _=_; rw[hX]; unfold doV; simp only; rw[hk,if_neg (by decide),if_pos rfl,dropV_none hg]; rfl
 have k1:(o.kind == 1)=false:=by rw[hk]; rfl
 have k2:(o.kind == 2)=true:=by rw[hk]; rfl
 have k3:(o.kind == 3)=false:=by rw[hk]; rfl
 have k4:(o.kind == 4)=false:=by rw[hk]; rfl
 have k5:(o.kind == 5)=false:=by rw[hk]; rfl
 have k6:(o.kind == 6)=false:=by rw[hk]; rfl
 clear kA bA hOA
 clear hX hv hl hp hs hsn hst hpt hpn hg hk
 generalize doV v (xOf o u)=DO at *
 generalize strOf (ct v)=sv at *
 go_enter Tryz.func48,Tryz.ntmps48
 go_wp2_with fail
 generalize (w.alloc (.cells (opCs o) 59))=wA at *
 refine (uh HT1).mono ?_
 rintro e w1 ⟨v1,rfl,o1,b1⟩
 have hO1:=(uh HOA).below b1
 obtain⟨p10,p11,p12,p13⟩:=hO1.c
 obtain⟨a1,g1,cap1,rfl,ss1,hcap1⟩:=OT.all o1
 have HOT1:=hide o1
 have HSS1:=hide ss1
 have HO1:=hide hO1
 have HB1:=hide (below_next (uh HBA) b1)
 have HT2':=hide (uh HT2 w1)
 clear HT1 HT2 o1 ss1 b1 hO1 HOA HBA hc
 go_wp2_with fail
 refine (uh HT2').mono ?_
 rintro e w2 ⟨v2,rfl,o2,b2⟩
 have hO2:=(uh HO1).below b2
 obtain⟨q10,q11,q12,q13⟩:=hO2.c
 obtain⟨a2,g2,cap2,rfl,ss2,hcap2⟩:=OT.all o2
 have HOT2:=hide o2
 have HOT12:=hide (own_below (uh HOT1) b2)
 have HSS2:=hide ss2
 have HSS12:=hide ((uh HSS1).below b2)
 have HO2:=hide hO2
 have HB2:=hide (below_next (uh HB1) b2)
 have HG2:=hide (uh HGP a1 g1 cap1 w2 (uh HSS12))
 clear HT2' o2 ss2 b2 hO2 HO1 HB1 HGP HSS1 HOT1 p10 p11 p12 p13
 go_wp2_with fail
 refine (uh HG2).mono ?_
 rintro e w3 ⟨rfl,b3⟩
 have hO3:=(uh HO2).below b3
 obtain⟨r10,r11,r12,r13⟩:=hO3.c
 have HO3:=hide hO3
 have HSS1:=hide ((uh HSS12).below b3)
 have HSS2':=hide ((uh HSS2).below b3)
 have HOT1:=hide (own_below (uh HOT12) b3)
 have HOT2':=hide (own_below (uh HOT2) b3)
 have HB3:=hide (below_next (uh HB2) b3)
 clear HG2 b3 hO3 HO2 HSS12 HSS2 HOT12 HOT2 HB2 q10 q11 q12 q13
 go_wp2
 go_ret2
 exact⟨by rw[uh HDO]; rfl,uh HB3⟩
theorem do_remove0 (v u:JV) (o:POp) (w:World) (hv:GdT v) (hl:(ct v).length≤100000) (hp:o.path.size≤1048576) (hs:o.src.size≤1048576) (hk:o.kind=2) (hg:(ptoks o.path.data.toList).getD []=[]) :
  Calls Tryz.prog 48 #[.string (strOf (ct v)),.agg (opCs o)] w fun e w'=>e = .returned (doR (doV v (xOf o u)))∧Below w.heap.size w w':=by
 obtain⟨hpn,hpt⟩:=toks_bnd o.path hp
 obtain⟨hsn,hst⟩:=toks_bnd o.src hs
 have hX:xOf o u=⟨o.kind,(ptoks o.path.data.toList).getD [],(ptoks o.src.data.toList).getD [],u⟩:=rfl
 have kA:=heap_alloc_new w (.cells (opCs o) 59)
 have bA:=alloc_below w (.cells (opCs o) 59)
 have hOA:OpIn (w.alloc (.cells (opCs o) 59)) w.heap.size o:=kA
 have HT1:=hide (specToks_walk o.path (w.alloc (.cells (opCs o) 59)) hp)
 have HT2:Hid (∀ wx,Calls Tryz.prog 93 #[.string o.src] wx fun e w'=>∃ v,e = .returned (.tuple #[v,.bool (ptoks o.src.data.toList).isSome])∧OT w' wx.heap.size v ((ptoks o.src.data.toList).getD [])∧Below wx.heap.size wx w'):=fun wx=>specToks_walk o.src wx hs
 have HOA:=hide hOA
 have HBA:=hide bA
 have hc:=hOA.c
 generalize (ptoks o.path.data.toList).isSome=ok1 at *
 generalize (ptoks o.src.data.toList).isSome=ok2 at *
 obtain⟨ps,hps⟩ : ∃ ps,(ptoks o.path.data.toList).getD []=ps:=⟨_,rfl⟩
 rw[hps] at hg HT1 hX hpn hpt
 clear hps
 generalize (ptoks o.src.data.toList).getD []=fs at *
 have HGP:Hid (∀ (a:Option Addr) (g cap:Nat) (wx:World),SS wx a g 0 (ps.map baT)→Calls Tryz.prog 94 #[.string (strOf (ct v)),.slice a ps.length cap] wx fun e w'=>e = .returned (getR v ps)∧Below wx.heap.size wx w'):=fun a g cap wx h=>get_walkS v hv.ok hv.tw (by omega) a g 0 cap ps wx h hpn hpt
 subst hg
 rw[show getR v [] = .tuple #[.string (strOf (ct v)),.bool true] from getR_some (getV_nil v)] at HGP
 have HDO:Hid (doV v (xOf o u) = .inl 3):=by show _=_; rw[hX]; unfold doV; simp only; rw[hk,if_neg (by decide),if_pos rfl]; rfl
 have k1:(o.kind == 1)=false:=by rw[hk]; rfl
 have k2:(o.kind == 2)=true:=by rw[hk]; rfl
 have k3:(o.kind == 3)=false:=by rw[hk]; rfl
 have k4:(o.kind == 4)=false:=by rw[hk]; rfl
 have k5:(o.kind == 5)=false:=by rw[hk]; rfl
 have k6:(o.kind == 6)=false:=by rw[hk]; rfl
 clear kA bA hOA
 clear hX hv hl hp hs hsn hst hpt hpn hk
 generalize doV v (xOf o u)=DO at *
 generalize strOf (ct v)=sv at *
 go_enter Tryz.func48,Tryz.ntmps48
 go_wp2_with fail
 generalize (w.alloc (.cells (opCs o) 59))=wA at *
 refine (uh HT1).mono ?_
 rintro e w1 ⟨v1,rfl,o1,b1⟩
 have hO1:=(uh HOA).below b1
 obtain⟨p10,p11,p12,p13⟩:=hO1.c
 obtain⟨a1,g1,cap1,rfl,ss1,hcap1⟩:=OT.all o1
 have HOT1:=hide o1
 have HSS1:=hide ss1
 have HO1:=hide hO1
 have HB1:=hide (below_next (uh HBA) b1)
 have HT2':=hide (uh HT2 w1)
 clear HT1 HT2 o1 ss1 b1 hO1 HOA HBA hc
 go_wp2_with fail
 refine (uh HT2').mono ?_
 rintro e w2 ⟨v2,rfl,o2,b2⟩
 have hO2:=(uh HO1).below b2
 obtain⟨q10,q11,q12,q13⟩:=hO2.c
 obtain⟨a2,g2,cap2,rfl,ss2,hcap2⟩:=OT.all o2
 have HOT2:=hide o2
 have HOT12:=hide (own_below (uh HOT1) b2)
 have HSS2:=hide ss2
 have HSS12:=hide ((uh HSS1).below b2)
 have HO2:=hide hO2
 have HB2:=hide (below_next (uh HB1) b2)
 have HG2:=hide (uh HGP a1 g1 cap1 w2 (uh HSS12))
 clear HT2' o2 ss2 b2 hO2 HO1 HB1 HGP HSS1 HOT1 p10 p11 p12 p13
 go_wp2_with fail
 refine (uh HG2).mono ?_
 rintro e w3 ⟨rfl,b3⟩
 have hO3:=(uh HO2).below b3
 obtain⟨r10,r11,r12,r13⟩:=hO3.c
 have HO3:=hide hO3
 have HSS1:=hide ((uh HSS12).below b3)
 have HSS2':=hide ((uh HSS2).below b3)
 have HOT1:=hide (own_below (uh HOT12) b3)
 have HOT2':=hide (own_below (uh HOT2) b3)
 have HB3:=hide (below_next (uh HB2) b3)
 clear HG2 b3 hO3 HO2 HSS12 HSS2 HOT12 HOT2 HB2 q10 q11 q12 q13
 go_wp2
 go_ret2
 exact⟨by rw[uh HDO]; rfl,uh HB3⟩
theorem do_remove (v u:JV) (o:POp) (w:World) (hv:GdT v) (hl:(ct v).length≤100000) (hp:o.path.size≤1048576) (hs:o.src.size≤1048576) (c:JV) (hk:o.kind=2) (hne:(ptoks o.path.data.toList).getD []≠[]) (hg:getV v ((ptoks o.path.data.toList).getD [])=some c) :
  Calls Tryz.prog 48 #[.string (strOf (ct v)),.agg (opCs o)] w fun e w'=>e = .returned (doR (doV v (xOf o u)))∧Below w.heap.size w w':=by
 obtain⟨hpn,hpt⟩:=toks_bnd o.path hp
 obtain⟨hsn,hst⟩:=toks_bnd o.src hs
 have hX:xOf o u=⟨o.kind,(ptoks o.path.data.toList).getD [],(ptoks o.src.data.toList).getD [],u⟩:=rfl
 have kA:=heap_alloc_new w (.cells (opCs o) 59)
 have bA:=alloc_below w (.cells (opCs o) 59)
 have hOA:OpIn (w.alloc (.cells (opCs o) 59)) w.heap.size o:=kA
 have HT1:=hide (specToks_walk o.path (w.alloc (.cells (opCs o) 59)) hp)
 have HT2:Hid (∀ wx,Calls Tryz.prog 93 #[.string o.src] wx fun e w'=>∃ v,e = .returned (.tuple #[v,.bool (ptoks o.src.data.toList).isSome])∧OT w' wx.heap.size v ((ptoks o.src.data.toList).getD [])∧Below wx.heap.size wx w'):=fun wx=>specToks_walk o.src wx hs
 have HOA:=hide hOA
 have HBA:=hide bA
 have hc:=hOA.c
 generalize (ptoks o.path.data.toList).isSome=ok1 at *
 generalize (ptoks o.src.data.toList).isSome=ok2 at *
 generalize (ptoks o.path.data.toList).getD []=ps at *
 generalize (ptoks o.src.data.toList).getD []=fs at *
 have HGP:Hid (∀ (a:Option Addr) (g cap:Nat) (wx:World),SS wx a g 0 (ps.map baT)→Calls Tryz.prog 94 #[.string (strOf (ct v)),.slice a ps.length cap] wx fun e w'=>e = .returned (getR v ps)∧Below wx.heap.size wx w'):=fun a g cap wx h=>get_walkS v hv.ok hv.tw (by omega) a g 0 cap ps wx h hpn hpt
 rw[getR_some hg] at HGP
 have hpos:¬ ps.length=0:=fun h=>hne (List.eq_nil_of_length_eq_zero h)
 have hposI:((ps.length:Int) == 0)=false:=by rw[beq_eq_false_iff_ne]; omega
 have HDR:Hid (∀ (a:Option Addr) (g cap:Nat) (wx:World),ps.length≤cap→SS wx a g 0 (ps.map baT)→∃ r,dropV v ps=some r∧Calls Tryz.prog 98 #[.string (strOf (ct v)),.slice a ps.length cap] wx fun e w'=>e = .returned (.string (strOf (ct r)))∧Below wx.heap.size wx w'):=fun a g cap wx hc h=>by
  obtain⟨r,h1,_,_,h4⟩:=drop_any v c ps a g 0 cap wx hne hv hg hl hpt hpn hc h
  exact⟨r,h1,h4⟩
 have HDO:Hid (∀ r,dropV v ps=some r→doV v (xOf o u) = .inr r):=fun r h=>by rw[hX]; unfold doV; simp only; rw[hk,if_neg (by decide),if_pos rfl,h]; rfl
 have k1:(o.kind == 1)=false:=by rw[hk]; rfl
 have k2:(o.kind == 2)=true:=by rw[hk]; rfl
 have k3:(o.kind == 3)=false:=by rw[hk]; rfl
 have k4:(o.kind == 4)=false:=by rw[hk]; rfl
 have k5:(o.kind == 5)=false:=by rw[hk]; rfl
 have k6:(o.kind == 6)=false:=by rw[hk]; rfl
 clear kA bA hOA
 clear hX hv hl hp hs hsn hst hpt hpn hg hne hk hpos
 generalize doV v (xOf o u)=DO at *
 generalize strOf (ct v)=sv at *
 generalize strOf (ct c)=sc at *
 go_enter Tryz.func48,Tryz.ntmps48
 go_wp2_with fail
 generalize (w.alloc (.cells (opCs o) 59))=wA at *
 refine (uh HT1).mono ?_
 rintro e w1 ⟨v1,rfl,o1,b1⟩
 have hO1:=(uh HOA).below b1
 obtain⟨p10,p11,p12,p13⟩:=hO1.c
 obtain⟨a1,g1,cap1,rfl,ss1,hcap1⟩:=OT.all o1
 have HOT1:=hide o1
 have HSS1:=hide ss1
 have HO1:=hide hO1
 have HB1:=hide (below_next (uh HBA) b1)
 have HT2':=hide (uh HT2 w1)
 clear HT1 HT2 o1 ss1 b1 hO1 HOA HBA hc
 go_wp2_with fail
 refine (uh HT2').mono ?_
 rintro e w2 ⟨v2,rfl,o2,b2⟩
 have hO2:=(uh HO1).below b2
 obtain⟨q10,q11,q12,q13⟩:=hO2.c
 obtain⟨a2,g2,cap2,rfl,ss2,hcap2⟩:=OT.all o2
 have HOT2:=hide o2
 have HOT12:=hide (own_below (uh HOT1) b2)
 have HSS2:=hide ss2
 have HSS12:=hide ((uh HSS1).below b2)
 have HO2:=hide hO2
 have HB2:=hide (below_next (uh HB1) b2)
 have HG2:=hide (uh HGP a1 g1 cap1 w2 (uh HSS12))
 clear HT2' o2 ss2 b2 hO2 HO1 HB1 HGP HSS1 HOT1 p10 p11 p12 p13
 go_wp2_with fail
 refine (uh HG2).mono ?_
 rintro e w3 ⟨rfl,b3⟩
 have hO3:=(uh HO2).below b3
 obtain⟨r10,r11,r12,r13⟩:=hO3.c
 have HO3:=hide hO3
 have HSS1:=hide ((uh HSS12).below b3)
 have HSS2':=hide ((uh HSS2).below b3)
 have HOT1:=hide (own_below (uh HOT12) b3)
 have HOT2':=hide (own_below (uh HOT2) b3)
 have HB3:=hide (below_next (uh HB2) b3)
 clear HG2 b3 hO3 HO2 HSS12 HSS2 HOT12 HOT2 HB2 q10 q11 q12 q13
 obtain⟨r,hr,hcall⟩:=uh HDR a1 g1 cap1 w3 hcap1 (uh HSS1)
 have HC:=hide hcall
 have HDO2:=hide (uh HDO r hr)
 clear HDR HDO hr hcall
 go_wp2_with fail
 refine (uh HC).mono ?_
 rintro e w4 ⟨rfl,b4⟩
 have HB4:=hide (below_next (uh HB3) b4)
 clear HC b4
 go_wp2
 go_ret2
 exact⟨by rw[uh HDO2]; rfl,uh HB4⟩
theorem do_replaceN (v u:JV) (o:POp) (w:World) (hv:GdT v) (hl:(ct v).length≤100000) (hp:o.path.size≤1048576) (hs:o.src.size≤1048576) (hk:o.kind=3) (hg:getV v ((ptoks o.path.data.toList).getD [])=none) :
  Calls Tryz.prog 48 #[.string (strOf (ct v)),.agg (opCs o)] w fun e w'=>e = .returned (doR (doV v (xOf o u)))∧Below w.heap.size w w':=by
 obtain⟨hpn,hpt⟩:=toks_bnd o.path hp
 obtain⟨hsn,hst⟩:=toks_bnd o.src hs
 have hX:xOf o u=⟨o.kind,(ptoks o.path.data.toList).getD [],(ptoks o.src.data.toList).getD [],u⟩:=rfl
 have kA:=heap_alloc_new w (.cells (opCs o) 59)
 have bA:=alloc_below w (.cells (opCs o) 59)
 have hOA:OpIn (w.alloc (.cells (opCs o) 59)) w.heap.size o:=kA
 have HT1:=hide (specToks_walk o.path (w.alloc (.cells (opCs o) 59)) hp)
 have HT2:Hid (∀ wx,Calls Tryz.prog 93 #[.string o.src] wx fun e w'=>∃ v,e = .returned (.tuple #[v,.bool (ptoks o.src.data.toList).isSome])∧OT w' wx.heap.size v ((ptoks o.src.data.toList).getD [])∧Below wx.heap.size wx w'):=fun wx=>specToks_walk o.src wx hs
 have HOA:=hide hOA
 have HBA:=hide bA
 have hc:=hOA.c
 generalize (ptoks o.path.data.toList).isSome=ok1 at *
 generalize (ptoks o.src.data.toList).isSome=ok2 at *
 generalize (ptoks o.path.data.toList).getD []=ps at *
 generalize (ptoks o.src.data.toList).getD []=fs at *
 have HGP:Hid (∀ (a:Option Addr) (g cap:Nat) (wx:World),SS wx a g 0 (ps.map baT)→Calls Tryz.prog 94 #[.string (strOf (ct v)),.slice a ps.length cap] wx fun e w'=>e = .returned (getR v ps)∧Below wx.heap.size wx w'):=fun a g cap wx h=>get_walkS v hv.ok hv.tw (by omega) a g 0 cap ps wx h hpn hpt
 rw[getR_none hg] at HGP
 have HDO:Hid (doV v (xOf o u) = .inl 3):=by show _=_; rw[hX]; unfold doV; simp only; rw[hk,if_neg (by decide),if_neg (by decide),if_pos rfl]; unfold chgV; rw[hg]; rfl
 have k1:(o.kind == 1)=false:=by rw[hk]; rfl
 have k2:(o.kind == 2)=false:=by rw[hk]; rfl
 have k3:(o.kind == 3)=true:=by rw[hk]; rfl
 have k4:(o.kind == 4)=false:=by rw[hk]; rfl
 have k5:(o.kind == 5)=false:=by rw[hk]; rfl
 have k6:(o.kind == 6)=false:=by rw[hk]; rfl
 clear kA bA hOA
 clear hX hv hl hp hs hsn hst hpt hpn hg hk
 generalize doV v (xOf o u)=DO at *
 generalize strOf (ct v)=sv at *
 go_enter Tryz.func48,Tryz.ntmps48
 go_wp2_with fail
 generalize (w.alloc (.cells (opCs o) 59))=wA at *
 refine (uh HT1).mono ?_
 rintro e w1 ⟨v1,rfl,o1,b1⟩
 have hO1:=(uh HOA).below b1
 obtain⟨p10,p11,p12,p13⟩:=hO1.c
 obtain⟨a1,g1,cap1,rfl,ss1,hcap1⟩:=OT.all o1
 have HOT1:=hide o1
 have HSS1:=hide ss1
 have HO1:=hide hO1
 have HB1:=hide (below_next (uh HBA) b1)
 have HT2':=hide (uh HT2 w1)
 clear HT1 HT2 o1 ss1 b1 hO1 HOA HBA hc
 go_wp2_with fail
 refine (uh HT2').mono ?_
 rintro e w2 ⟨v2,rfl,o2,b2⟩
 have hO2:=(uh HO1).below b2
 obtain⟨q10,q11,q12,q13⟩:=hO2.c
 obtain⟨a2,g2,cap2,rfl,ss2,hcap2⟩:=OT.all o2
 have HOT2:=hide o2
 have HOT12:=hide (own_below (uh HOT1) b2)
 have HSS2:=hide ss2
 have HSS12:=hide ((uh HSS1).below b2)
 have HO2:=hide hO2
 have HB2:=hide (below_next (uh HB1) b2)
 have HG2:=hide (uh HGP a1 g1 cap1 w2 (uh HSS12))
 clear HT2' o2 ss2 b2 hO2 HO1 HB1 HGP HSS1 HOT1 p10 p11 p12 p13
 go_wp2_with fail
 refine (uh HG2).mono ?_
 rintro e w3 ⟨rfl,b3⟩
 have hO3:=(uh HO2).below b3
 obtain⟨r10,r11,r12,r13⟩:=hO3.c
 have HO3:=hide hO3
 have HSS1:=hide ((uh HSS12).below b3)
 have HSS2':=hide ((uh HSS2).below b3)
 have HOT1:=hide (own_below (uh HOT12) b3)
 have HOT2':=hide (own_below (uh HOT2) b3)
 have HB3:=hide (below_next (uh HB2) b3)
 clear HG2 b3 hO3 HO2 HSS12 HSS2 HOT12 HOT2 HB2 q10 q11 q12 q13
 go_wp2
 go_ret2
 exact⟨by rw[uh HDO]; rfl,uh HB3⟩
theorem do_replace (v u:JV) (o:POp) (w:World) (hv:GdT v) (hl:(ct v).length≤100000) (hp:o.path.size≤1048576) (hs:o.src.size≤1048576) (c:JV) (hk:o.kind=3) (hval:o.val=strOf (ct u)) (hu:GdT u) (hul:(ct u).length≤100000) (hg:getV v ((ptoks o.path.data.toList).getD [])=some c) :
  Calls Tryz.prog 48 #[.string (strOf (ct v)),.agg (opCs o)] w fun e w'=>e = .returned (doR (doV v (xOf o u)))∧Below w.heap.size w w':=by
 obtain⟨hpn,hpt⟩:=toks_bnd o.path hp
 obtain⟨hsn,hst⟩:=toks_bnd o.src hs
 have hX:xOf o u=⟨o.kind,(ptoks o.path.data.toList).getD [],(ptoks o.src.data.toList).getD [],u⟩:=rfl
 have kA:=heap_alloc_new w (.cells (opCs o) 59)
 have bA:=alloc_below w (.cells (opCs o) 59)
 have hOA:OpIn (w.alloc (.cells (opCs o) 59)) w.heap.size o:=kA
 have HT1:=hide (specToks_walk o.path (w.alloc (.cells (opCs o) 59)) hp)
 have HT2:Hid (∀ wx,Calls Tryz.prog 93 #[.string o.src] wx fun e w'=>∃ v,e = .returned (.tuple #[v,.bool (ptoks o.src.data.toList).isSome])∧OT w' wx.heap.size v ((ptoks o.src.data.toList).getD [])∧Below wx.heap.size wx w'):=fun wx=>specToks_walk o.src wx hs
 have HOA:=hide hOA
 have HBA:=hide bA
 have hc:=hOA.c
 generalize (ptoks o.path.data.toList).isSome=ok1 at *
 generalize (ptoks o.src.data.toList).isSome=ok2 at *
 generalize (ptoks o.path.data.toList).getD []=ps at *
 generalize (ptoks o.src.data.toList).getD []=fs at *
 have HGP:Hid (∀ (a:Option Addr) (g cap:Nat) (wx:World),SS wx a g 0 (ps.map baT)→Calls Tryz.prog 94 #[.string (strOf (ct v)),.slice a ps.length cap] wx fun e w'=>e = .returned (getR v ps)∧Below wx.heap.size wx w'):=fun a g cap wx h=>get_walkS v hv.ok hv.tw (by omega) a g 0 cap ps wx h hpn hpt
 rw[getR_some hg] at HGP
 have hsl:=setV_len (u:=u) hv hg
 have HSE:Hid (∀ (a:Option Addr) (g cap:Nat) (wx:World),ps.length≤cap→SS wx a g 0 (ps.map baT)→Calls Tryz.prog 99 #[.string (strOf (ct v)),.slice a ps.length cap,.string o.val] wx fun e w'=>e = .returned (.string (strOf (ct (setV v ps u))))∧Below wx.heap.size wx w'):=fun a g cap wx hc h=>by
  rw[hval]; exact set_walk ps v u c a g 0 cap wx hv hu hg hl (by omega) hpt hpn hc h
 have HDO:Hid (doV v (xOf o u) = .inr (setV v ps u)):=by show _=_; rw[hX]; unfold doV; simp only; rw[hk,if_neg (by decide),if_neg (by decide),if_pos rfl]; unfold chgV; rw[hg]; rfl
 have k1:(o.kind == 1)=false:=by rw[hk]; rfl
 have k2:(o.kind == 2)=false:=by rw[hk]; rfl
 have k3:(o.kind == 3)=true:=by rw[hk]; rfl
 have k4:(o.kind == 4)=false:=by rw[hk]; rfl
 have k5:(o.kind == 5)=false:=by rw[hk]; rfl
 have k6:(o.kind == 6)=false:=by rw[hk]; rfl
 clear kA bA hOA
 clear hX hv hl hp hs hsn hst hpt hpn hg hk hval hu hul hsl
 generalize doV v (xOf o u)=DO at *
 generalize strOf (ct v)=sv at *
 generalize strOf (ct c)=sc at *
 go_enter Tryz.func48,Tryz.ntmps48
 go_wp2_with fail
 generalize (w.alloc (.cells (opCs o) 59))=wA at *
 refine (uh HT1).mono ?_
 rintro e w1 ⟨v1,rfl,o1,b1⟩
 have hO1:=(uh HOA).below b1
 obtain⟨p10,p11,p12,p13⟩:=hO1.c
 obtain⟨a1,g1,cap1,rfl,ss1,hcap1⟩:=OT.all o1
 have HOT1:=hide o1
 have HSS1:=hide ss1
 have HO1:=hide hO1
 have HB1:=hide (below_next (uh HBA) b1)
 have HT2':=hide (uh HT2 w1)
 clear HT1 HT2 o1 ss1 b1 hO1 HOA HBA hc
 go_wp2_with fail
 refine (uh HT2').mono ?_
 rintro e w2 ⟨v2,rfl,o2,b2⟩
 have hO2:=(uh HO1).below b2
 obtain⟨q10,q11,q12,q13⟩:=hO2.c
 obtain⟨a2,g2,cap2,rfl,ss2,hcap2⟩:=OT.all o2
 have HOT2:=hide o2
 have HOT12:=hide (own_below (uh HOT1) b2)
 have HSS2:=hide ss2
 have HSS12:=hide ((uh HSS1).below b2)
 have HO2:=hide hO2
 have HB2:=hide (below_next (uh HB1) b2)
 have HG2:=hide (uh HGP a1 g1 cap1 w2 (uh HSS12))
 clear HT2' o2 ss2 b2 hO2 HO1 HB1 HGP HSS1 HOT1 p10 p11 p12 p13
 go_wp2_with fail
 refine (uh HG2).mono ?_
 rintro e w3 ⟨rfl,b3⟩
 have hO3:=(uh HO2).below b3
 obtain⟨r10,r11,r12,r13⟩:=hO3.c
 have HO3:=hide hO3
 have HSS1:=hide ((uh HSS12).below b3)
 have HSS2':=hide ((uh HSS2).below b3)
 have HOT1:=hide (own_below (uh HOT12) b3)
 have HOT2':=hide (own_below (uh HOT2) b3)
 have HB3:=hide (below_next (uh HB2) b3)
 clear HG2 b3 hO3 HO2 HSS12 HSS2 HOT12 HOT2 HB2 q10 q11 q12 q13
 have HC:=hide (uh HSE a1 g1 cap1 w3 hcap1 (uh HSS1))
 clear HSE
 go_wp2_with fail
 refine (uh HC).mono ?_
 rintro e w4 ⟨rfl,b4⟩
 have HB4:=hide (below_next (uh HB3) b4)
 clear HC b4
 go_wp2
 go_ret2
 exact⟨by rw[uh HDO]; rfl,uh HB4⟩
theorem do_testN (v u:JV) (o:POp) (w:World) (hv:GdT v) (hl:(ct v).length≤100000) (hp:o.path.size≤1048576) (hs:o.src.size≤1048576) (hk:o.kind=6) (hg:getV v ((ptoks o.path.data.toList).getD [])=none) :
  Calls Tryz.prog 48 #[.string (strOf (ct v)),.agg (opCs o)] w fun e w'=>e = .returned (doR (doV v (xOf o u)))∧Below w.heap.size w w':=by
 obtain⟨hpn,hpt⟩:=toks_bnd o.path hp
 obtain⟨hsn,hst⟩:=toks_bnd o.src hs
 have hX:xOf o u=⟨o.kind,(ptoks o.path.data.toList).getD [],(ptoks o.src.data.toList).getD [],u⟩:=rfl
 have kA:=heap_alloc_new w (.cells (opCs o) 59)
 have bA:=alloc_below w (.cells (opCs o) 59)
 have hOA:OpIn (w.alloc (.cells (opCs o) 59)) w.heap.size o:=kA
 have HT1:=hide (specToks_walk o.path (w.alloc (.cells (opCs o) 59)) hp)
 have HT2:Hid (∀ wx,Calls Tryz.prog 93 #[.string o.src] wx fun e w'=>∃ v,e = .returned (.tuple #[v,.bool (ptoks o.src.data.toList).isSome])∧OT w' wx.heap.size v ((ptoks o.src.data.toList).getD [])∧Below wx.heap.size wx w'):=fun wx=>specToks_walk o.src wx hs
 have HOA:=hide hOA
 have HBA:=hide bA
 have hc:=hOA.c
 generalize (ptoks o.path.data.toList).isSome=ok1 at *
 generalize (ptoks o.src.data.toList).isSome=ok2 at *
 generalize (ptoks o.path.data.toList).getD []=ps at *
 generalize (ptoks o.src.data.toList).getD []=fs at *
 have HGP:Hid (∀ (a:Option Addr) (g cap:Nat) (wx:World),SS wx a g 0 (ps.map baT)→Calls Tryz.prog 94 #[.string (strOf (ct v)),.slice a ps.length cap] wx fun e w'=>e = .returned (getR v ps)∧Below wx.heap.size wx w'):=fun a g cap wx h=>get_walkS v hv.ok hv.tw (by omega) a g 0 cap ps wx h hpn hpt
 rw[getR_none hg] at HGP
 have HDO:Hid (doV v (xOf o u) = .inl 3):=by show _=_; rw[hX]; unfold doV; simp only; rw[hk,if_neg (by decide),if_neg (by decide),if_neg (by decide),if_neg (by decide),if_neg (by decide),hg]
 have k1:(o.kind == 1)=false:=by rw[hk]; rfl
 have k2:(o.kind == 2)=false:=by rw[hk]; rfl
 have k3:(o.kind == 3)=false:=by rw[hk]; rfl
 have k4:(o.kind == 4)=false:=by rw[hk]; rfl
 have k5:(o.kind == 5)=false:=by rw[hk]; rfl
 have k6:(o.kind == 6)=true:=by rw[hk]; rfl
 clear kA bA hOA
 clear hX hv hl hp hs hsn hst hpt hpn hg hk
 generalize doV v (xOf o u)=DO at *
 generalize strOf (ct v)=sv at *
 go_enter Tryz.func48,Tryz.ntmps48
 go_wp2_with fail
 generalize (w.alloc (.cells (opCs o) 59))=wA at *
 refine (uh HT1).mono ?_
 rintro e w1 ⟨v1,rfl,o1,b1⟩
 have hO1:=(uh HOA).below b1
 obtain⟨p10,p11,p12,p13⟩:=hO1.c
 obtain⟨a1,g1,cap1,rfl,ss1,hcap1⟩:=OT.all o1
 have HOT1:=hide o1
 have HSS1:=hide ss1
 have HO1:=hide hO1
 have HB1:=hide (below_next (uh HBA) b1)
 have HT2':=hide (uh HT2 w1)
 clear HT1 HT2 o1 ss1 b1 hO1 HOA HBA hc
 go_wp2_with fail
 refine (uh HT2').mono ?_
 rintro e w2 ⟨v2,rfl,o2,b2⟩
 have hO2:=(uh HO1).below b2
 obtain⟨q10,q11,q12,q13⟩:=hO2.c
 obtain⟨a2,g2,cap2,rfl,ss2,hcap2⟩:=OT.all o2
 have HOT2:=hide o2
 have HOT12:=hide (own_below (uh HOT1) b2)
 have HSS2:=hide ss2
 have HSS12:=hide ((uh HSS1).below b2)
 have HO2:=hide hO2
 have HB2:=hide (below_next (uh HB1) b2)
 have HG2:=hide (uh HGP a1 g1 cap1 w2 (uh HSS12))
 clear HT2' o2 ss2 b2 hO2 HO1 HB1 HGP HSS1 HOT1 p10 p11 p12 p13
 go_wp2_with fail
 refine (uh HG2).mono ?_
 rintro e w3 ⟨rfl,b3⟩
 have hO3:=(uh HO2).below b3
 obtain⟨r10,r11,r12,r13⟩:=hO3.c
 have HO3:=hide hO3
 have HSS1:=hide ((uh HSS12).below b3)
 have HSS2':=hide ((uh HSS2).below b3)
 have HOT1:=hide (own_below (uh HOT12) b3)
 have HOT2':=hide (own_below (uh HOT2) b3)
 have HB3:=hide (below_next (uh HB2) b3)
 clear HG2 b3 hO3 HO2 HSS12 HSS2 HOT12 HOT2 HB2 q10 q11 q12 q13
 go_wp2
 go_ret2
 exact⟨by rw[uh HDO]; rfl,uh HB3⟩
theorem do_test (v u:JV) (o:POp) (w:World) (hv:GdT v) (hl:(ct v).length≤100000) (hp:o.path.size≤1048576) (hs:o.src.size≤1048576) (c:JV) (hk:o.kind=6) (hval:o.val=strOf (ct u)) (hg:getV v ((ptoks o.path.data.toList).getD [])=some c) :
  Calls Tryz.prog 48 #[.string (strOf (ct v)),.agg (opCs o)] w fun e w'=>e = .returned (doR (doV v (xOf o u)))∧Below w.heap.size w w':=by
 obtain⟨hpn,hpt⟩:=toks_bnd o.path hp
 obtain⟨hsn,hst⟩:=toks_bnd o.src hs
 have hX:xOf o u=⟨o.kind,(ptoks o.path.data.toList).getD [],(ptoks o.src.data.toList).getD [],u⟩:=rfl
 have kA:=heap_alloc_new w (.cells (opCs o) 59)
 have bA:=alloc_below w (.cells (opCs o) 59)
 have hOA:OpIn (w.alloc (.cells (opCs o) 59)) w.heap.size o:=kA
 have HT1:=hide (specToks_walk o.path (w.alloc (.cells (opCs o) 59)) hp)
 have HT2:Hid (∀ wx,Calls Tryz.prog 93 #[.string o.src] wx fun e w'=>∃ v,e = .returned (.tuple #[v,.bool (ptoks o.src.data.toList).isSome])∧OT w' wx.heap.size v ((ptoks o.src.data.toList).getD [])∧Below wx.heap.size wx w'):=fun wx=>specToks_walk o.src wx hs
 have HOA:=hide hOA
 have HBA:=hide bA
 have hc:=hOA.c
 generalize (ptoks o.path.data.toList).isSome=ok1 at *
 generalize (ptoks o.src.data.toList).isSome=ok2 at *
 generalize (ptoks o.path.data.toList).getD []=ps at *
 generalize (ptoks o.src.data.toList).getD []=fs at *
 have HGP:Hid (∀ (a:Option Addr) (g cap:Nat) (wx:World),SS wx a g 0 (ps.map baT)→Calls Tryz.prog 94 #[.string (strOf (ct v)),.slice a ps.length cap] wx fun e w'=>e = .returned (getR v ps)∧Below wx.heap.size wx w'):=fun a g cap wx h=>get_walkS v hv.ok hv.tw (by omega) a g 0 cap ps wx h hpn hpt
 rw[getR_some hg] at HGP
 have hse:=str_eq (ct c) (ct u)
 rw[← hval] at hse
 have HDO:Hid (doV v (xOf o u)=if ct c=ct u then .inr v else .inl 5):=by show _=_; rw[hX]; unfold doV; simp only; rw[hk,if_neg (by decide),if_neg (by decide),if_neg (by decide),if_neg (by decide),if_neg (by decide),hg]
 have k1:(o.kind == 1)=false:=by rw[hk]; rfl
 have k2:(o.kind == 2)=false:=by rw[hk]; rfl
 have k3:(o.kind == 3)=false:=by rw[hk]; rfl
 have k4:(o.kind == 4)=false:=by rw[hk]; rfl
 have k5:(o.kind == 5)=false:=by rw[hk]; rfl
 have k6:(o.kind == 6)=true:=by rw[hk]; rfl
 clear kA bA hOA
 clear hX hv hl hp hs hsn hst hpt hpn hg hk hval
 generalize doV v (xOf o u)=DO at *
 go_enter Tryz.func48,Tryz.ntmps48
 go_wp2_with fail
 generalize (w.alloc (.cells (opCs o) 59))=wA at *
 refine (uh HT1).mono ?_
 rintro e w1 ⟨v1,rfl,o1,b1⟩
 have hO1:=(uh HOA).below b1
 obtain⟨p10,p11,p12,p13⟩:=hO1.c
 obtain⟨a1,g1,cap1,rfl,ss1,hcap1⟩:=OT.all o1
 have HOT1:=hide o1
 have HSS1:=hide ss1
 have HO1:=hide hO1
 have HB1:=hide (below_next (uh HBA) b1)
 have HT2':=hide (uh HT2 w1)
 clear HT1 HT2 o1 ss1 b1 hO1 HOA HBA hc
 go_wp2_with fail
 refine (uh HT2').mono ?_
 rintro e w2 ⟨v2,rfl,o2,b2⟩
 have hO2:=(uh HO1).below b2
 obtain⟨q10,q11,q12,q13⟩:=hO2.c
 obtain⟨a2,g2,cap2,rfl,ss2,hcap2⟩:=OT.all o2
 have HOT2:=hide o2
 have HOT12:=hide (own_below (uh HOT1) b2)
 have HSS2:=hide ss2
 have HSS12:=hide ((uh HSS1).below b2)
 have HO2:=hide hO2
 have HB2:=hide (below_next (uh HB1) b2)
 have HG2:=hide (uh HGP a1 g1 cap1 w2 (uh HSS12))
 clear HT2' o2 ss2 b2 hO2 HO1 HB1 HGP HSS1 HOT1 p10 p11 p12 p13
 go_wp2_with fail
 refine (uh HG2).mono ?_
 rintro e w3 ⟨rfl,b3⟩
 have hO3:=(uh HO2).below b3
 obtain⟨r10,r11,r12,r13⟩:=hO3.c
 have HO3:=hide hO3
 have HSS1:=hide ((uh HSS12).below b3)
 have HSS2':=hide ((uh HSS2).below b3)
 have HOT1:=hide (own_below (uh HOT12) b3)
 have HOT2':=hide (own_below (uh HOT2) b3)
 have HB3:=hide (below_next (uh HB2) b3)
 clear HG2 b3 hO3 HO2 HSS12 HSS2 HOT12 HOT2 HB2 q10 q11 q12 q13
 by_cases he:ct c=ct u
 ·have hbe:(ct c == ct u)=true:=by rw[beq_iff_eq]; exact he
  rw[hbe] at hse
  rw[if_pos he] at HDO
  clear he hbe
  generalize strOf (ct c)=sc at *
  go_wp2
  go_ret2
  exact⟨by rw[uh HDO]; rfl,uh HB3⟩
 ·have hbe:(ct c == ct u)=false:=by rw[beq_eq_false_iff_ne]; exact he
  rw[hbe] at hse
  rw[if_neg he] at HDO
  clear he hbe
  generalize strOf (ct c)=sc at *
  go_wp2
  go_ret2
  exact⟨by rw[uh HDO]; rfl,uh HB3⟩
theorem do_moveN (v u:JV) (o:POp) (w:World) (hv:GdT v) (hl:(ct v).length≤100000) (hp:o.path.size≤1048576) (hs:o.src.size≤1048576) (hk:o.kind=4) (hg:getV v ((ptoks o.src.data.toList).getD [])=none) :
  Calls Tryz.prog 48 #[.string (strOf (ct v)),.agg (opCs o)] w fun e w'=>e = .returned (doR (doV v (xOf o u)))∧Below w.heap.size w w':=by
 obtain⟨hpn,hpt⟩:=toks_bnd o.path hp
 obtain⟨hsn,hst⟩:=toks_bnd o.src hs
 have hX:xOf o u=⟨o.kind,(ptoks o.path.data.toList).getD [],(ptoks o.src.data.toList).getD [],u⟩:=rfl
 have kA:=heap_alloc_new w (.cells (opCs o) 59)
 have bA:=alloc_below w (.cells (opCs o) 59)
 have hOA:OpIn (w.alloc (.cells (opCs o) 59)) w.heap.size o:=kA
 have HT1:=hide (specToks_walk o.path (w.alloc (.cells (opCs o) 59)) hp)
 have HT2:Hid (∀ wx,Calls Tryz.prog 93 #[.string o.src] wx fun e w'=>∃ v,e = .returned (.tuple #[v,.bool (ptoks o.src.data.toList).isSome])∧OT w' wx.heap.size v ((ptoks o.src.data.toList).getD [])∧Below wx.heap.size wx w'):=fun wx=>specToks_walk o.src wx hs
 have HOA:=hide hOA
 have HBA:=hide bA
 have hc:=hOA.c
 generalize (ptoks o.path.data.toList).isSome=ok1 at *
 generalize (ptoks o.src.data.toList).isSome=ok2 at *
 generalize (ptoks o.path.data.toList).getD []=ps at *
 generalize (ptoks o.src.data.toList).getD []=fs at *
 have HGP:Hid (∀ (a:Option Addr) (g cap:Nat) (wx:World),SS wx a g 0 (ps.map baT)→Calls Tryz.prog 94 #[.string (strOf (ct v)),.slice a ps.length cap] wx fun e w'=>e = .returned (getR v ps)∧Below wx.heap.size wx w'):=fun a g cap wx h=>get_walkS v hv.ok hv.tw (by omega) a g 0 cap ps wx h hpn hpt
 obtain⟨gx,gb,hgr⟩ : ∃ (gx:ByteArray) (gb:Bool),getR v ps = .tuple #[.string gx,.bool gb]:=by
  unfold getR; cases getV v ps with
  | none=>exact⟨_,_,rfl⟩
  | some x=>exact⟨_,_,rfl⟩
 rw[hgr] at HGP
 have HGF:Hid (∀ (a:Option Addr) (g cap:Nat) (wx:World),SS wx a g 0 (fs.map baT)→Calls Tryz.prog 94 #[.string (strOf (ct v)),.slice a fs.length cap] wx fun e w'=>e = .returned (getR v fs)∧Below wx.heap.size wx w'):=fun a g cap wx h=>get_walkS v hv.ok hv.tw (by omega) a g 0 cap fs wx h hsn hst
 rw[getR_none hg] at HGF
 have HDO:Hid (doV v (xOf o u) = .inl 3):=by show _=_; rw[hX]; unfold doV; simp only; rw[hk,if_neg (by decide),if_neg (by decide),if_neg (by decide),if_pos rfl,hg]
 have k1:(o.kind == 1)=false:=by rw[hk]; rfl
 have k2:(o.kind == 2)=false:=by rw[hk]; rfl
 have k3:(o.kind == 3)=false:=by rw[hk]; rfl
 have k4:(o.kind == 4)=true:=by rw[hk]; rfl
 have k5:(o.kind == 5)=false:=by rw[hk]; rfl
 have k6:(o.kind == 6)=false:=by rw[hk]; rfl
 clear kA bA hOA
 clear hX hp hs hsn hst hgr hg hk hv hl hpt hpn
 generalize doV v (xOf o u)=DO at *
 generalize strOf (ct v)=sv at *
 go_enter Tryz.func48,Tryz.ntmps48
 go_wp2_with fail
 generalize (w.alloc (.cells (opCs o) 59))=wA at *
 refine (uh HT1).mono ?_
 rintro e w1 ⟨v1,rfl,o1,b1⟩
 have hO1:=(uh HOA).below b1
 obtain⟨p10,p11,p12,p13⟩:=hO1.c
 obtain⟨a1,g1,cap1,rfl,ss1,hcap1⟩:=OT.all o1
 have HOT1:=hide o1
 have HSS1:=hide ss1
 have HO1:=hide hO1
 have HB1:=hide (below_next (uh HBA) b1)
 have HT2':=hide (uh HT2 w1)
 clear HT1 HT2 o1 ss1 b1 hO1 HOA HBA hc
 go_wp2_with fail
 refine (uh HT2').mono ?_
 rintro e w2 ⟨v2,rfl,o2,b2⟩
 have hO2:=(uh HO1).below b2
 obtain⟨q10,q11,q12,q13⟩:=hO2.c
 obtain⟨a2,g2,cap2,rfl,ss2,hcap2⟩:=OT.all o2
 have HOT2:=hide o2
 have HOT12:=hide (own_below (uh HOT1) b2)
 have HSS2:=hide ss2
 have HSS12:=hide ((uh HSS1).below b2)
 have HO2:=hide hO2
 have HB2:=hide (below_next (uh HB1) b2)
 have HG2:=hide (uh HGP a1 g1 cap1 w2 (uh HSS12))
 clear HT2' o2 ss2 b2 hO2 HO1 HB1 HGP HSS1 HOT1 p10 p11 p12 p13
 go_wp2_with fail
 refine (uh HG2).mono ?_
 rintro e w3 ⟨rfl,b3⟩
 have hO3:=(uh HO2).below b3
 obtain⟨r10,r11,r12,r13⟩:=hO3.c
 have HO3:=hide hO3
 have HSS1:=hide ((uh HSS12).below b3)
 have HSS2':=hide ((uh HSS2).below b3)
 have HOT1:=hide (own_below (uh HOT12) b3)
 have HOT2':=hide (own_below (uh HOT2) b3)
 have HB3:=hide (below_next (uh HB2) b3)
 clear HG2 b3 hO3 HO2 HSS12 HSS2 HOT12 HOT2 HB2 q10 q11 q12 q13
 have HF3:=hide (uh HGF a2 g2 cap2 w3 (uh HSS2'))
 clear HGF
 go_wp2_with fail
 refine (uh HF3).mono ?_
 rintro e w4 ⟨rfl,b4⟩
 have hO4:=(uh HO3).below b4
 obtain⟨s10,s11,s12,s13⟩:=hO4.c
 have HO4:=hide hO4
 have HSS14:=hide ((uh HSS1).below b4)
 have HSS24:=hide ((uh HSS2').below b4)
 have HOT14:=hide (own_below (uh HOT1) b4)
 have HOT24:=hide (own_below (uh HOT2') b4)
 have HB4:=hide (below_next (uh HB3) b4)
 clear HF3 b4 hO4 HO3 HSS1 HSS2' HOT1 HOT2' HB3 r10 r11 r12 r13
 go_wp2
 go_ret2
 exact⟨by rw[uh HDO]; rfl,uh HB4⟩
theorem do_copyN (v u:JV) (o:POp) (w:World) (hv:GdT v) (hl:(ct v).length≤100000) (hp:o.path.size≤1048576) (hs:o.src.size≤1048576) (hk:o.kind=5) (hg:getV v ((ptoks o.src.data.toList).getD [])=none) :
  Calls Tryz.prog 48 #[.string (strOf (ct v)),.agg (opCs o)] w fun e w'=>e = .returned (doR (doV v (xOf o u)))∧Below w.heap.size w w':=by
 obtain⟨hpn,hpt⟩:=toks_bnd o.path hp
 obtain⟨hsn,hst⟩:=toks_bnd o.src hs
 have hX:xOf o u=⟨o.kind,(ptoks o.path.data.toList).getD [],(ptoks o.src.data.toList).getD [],u⟩:=rfl
 have kA:=heap_alloc_new w (.cells (opCs o) 59)
 have bA:=alloc_below w (.cells (opCs o) 59)
 have hOA:OpIn (w.alloc (.cells (opCs o) 59)) w.heap.size o:=kA
 have HT1:=hide (specToks_walk o.path (w.alloc (.cells (opCs o) 59)) hp)
 have HT2:Hid (∀ wx,Calls Tryz.prog 93 #[.string o.src] wx fun e w'=>∃ v,e = .returned (.tuple #[v,.bool (ptoks o.src.data.toList).isSome])∧OT w' wx.heap.size v ((ptoks o.src.data.toList).getD [])∧Below wx.heap.size wx w'):=fun wx=>specToks_walk o.src wx hs
 have HOA:=hide hOA
 have HBA:=hide bA
 have hc:=hOA.c
 generalize (ptoks o.path.data.toList).isSome=ok1 at *
 generalize (ptoks o.src.data.toList).isSome=ok2 at *
 generalize (ptoks o.path.data.toList).getD []=ps at *
 generalize (ptoks o.src.data.toList).getD []=fs at *
 have HGP:Hid (∀ (a:Option Addr) (g cap:Nat) (wx:World),SS wx a g 0 (ps.map baT)→Calls Tryz.prog 94 #[.string (strOf (ct v)),.slice a ps.length cap] wx fun e w'=>e = .returned (getR v ps)∧Below wx.heap.size wx w'):=fun a g cap wx h=>get_walkS v hv.ok hv.tw (by omega) a g 0 cap ps wx h hpn hpt
 obtain⟨gx,gb,hgr⟩ : ∃ (gx:ByteArray) (gb:Bool),getR v ps = .tuple #[.string gx,.bool gb]:=by
  unfold getR; cases getV v ps with
  | none=>exact⟨_,_,rfl⟩
  | some x=>exact⟨_,_,rfl⟩
 rw[hgr] at HGP
 have HGF:Hid (∀ (a:Option Addr) (g cap:Nat) (wx:World),SS wx a g 0 (fs.map baT)→Calls Tryz.prog 94 #[.string (strOf (ct v)),.slice a fs.length cap] wx fun e w'=>e = .returned (getR v fs)∧Below wx.heap.size wx w'):=fun a g cap wx h=>get_walkS v hv.ok hv.tw (by omega) a g 0 cap fs wx h hsn hst
 rw[getR_none hg] at HGF
 have HDO:Hid (doV v (xOf o u) = .inl 3):=by show _=_; rw[hX]; unfold doV; simp only; rw[hk,if_neg (by decide),if_neg (by decide),if_neg (by decide),if_neg (by decide),if_pos rfl,hg]
 have k1:(o.kind == 1)=false:=by rw[hk]; rfl
 have k2:(o.kind == 2)=false:=by rw[hk]; rfl
 have k3:(o.kind == 3)=false:=by rw[hk]; rfl
 have k4:(o.kind == 4)=false:=by rw[hk]; rfl
 have k5:(o.kind == 5)=true:=by rw[hk]; rfl
 have k6:(o.kind == 6)=false:=by rw[hk]; rfl
 clear kA bA hOA
 clear hX hp hs hsn hst hgr hg hk hv hl hpt hpn
 generalize doV v (xOf o u)=DO at *
 generalize strOf (ct v)=sv at *
 go_enter Tryz.func48,Tryz.ntmps48
 go_wp2_with fail
 generalize (w.alloc (.cells (opCs o) 59))=wA at *
 refine (uh HT1).mono ?_
 rintro e w1 ⟨v1,rfl,o1,b1⟩
 have hO1:=(uh HOA).below b1
 obtain⟨p10,p11,p12,p13⟩:=hO1.c
 obtain⟨a1,g1,cap1,rfl,ss1,hcap1⟩:=OT.all o1
 have HOT1:=hide o1
 have HSS1:=hide ss1
 have HO1:=hide hO1
 have HB1:=hide (below_next (uh HBA) b1)
 have HT2':=hide (uh HT2 w1)
 clear HT1 HT2 o1 ss1 b1 hO1 HOA HBA hc
 go_wp2_with fail
 refine (uh HT2').mono ?_
 rintro e w2 ⟨v2,rfl,o2,b2⟩
 have hO2:=(uh HO1).below b2
 obtain⟨q10,q11,q12,q13⟩:=hO2.c
 obtain⟨a2,g2,cap2,rfl,ss2,hcap2⟩:=OT.all o2
 have HOT2:=hide o2
 have HOT12:=hide (own_below (uh HOT1) b2)
 have HSS2:=hide ss2
 have HSS12:=hide ((uh HSS1).below b2)
 have HO2:=hide hO2
 have HB2:=hide (below_next (uh HB1) b2)
 have HG2:=hide (uh HGP a1 g1 cap1 w2 (uh HSS12))
 clear HT2' o2 ss2 b2 hO2 HO1 HB1 HGP HSS1 HOT1 p10 p11 p12 p13
 go_wp2_with fail
 refine (uh HG2).mono ?_
 rintro e w3 ⟨rfl,b3⟩
 have hO3:=(uh HO2).below b3
 obtain⟨r10,r11,r12,r13⟩:=hO3.c
 have HO3:=hide hO3
 have HSS1:=hide ((uh HSS12).below b3)
 have HSS2':=hide ((uh HSS2).below b3)
 have HOT1:=hide (own_below (uh HOT12) b3)
 have HOT2':=hide (own_below (uh HOT2) b3)
 have HB3:=hide (below_next (uh HB2) b3)
 clear HG2 b3 hO3 HO2 HSS12 HSS2 HOT12 HOT2 HB2 q10 q11 q12 q13
 have HF3:=hide (uh HGF a2 g2 cap2 w3 (uh HSS2'))
 clear HGF
 go_wp2_with fail
 refine (uh HF3).mono ?_
 rintro e w4 ⟨rfl,b4⟩
 have hO4:=(uh HO3).below b4
 obtain⟨s10,s11,s12,s13⟩:=hO4.c
 have HO4:=hide hO4
 have HSS14:=hide ((uh HSS1).below b4)
 have HSS24:=hide ((uh HSS2').below b4)
 have HOT14:=hide (own_below (uh HOT1) b4)
 have HOT24:=hide (own_below (uh HOT2') b4)
 have HB4:=hide (below_next (uh HB3) b4)
 clear HF3 b4 hO4 HO3 HSS1 HSS2' HOT1 HOT2' HB3 r10 r11 r12 r13
 go_wp2
 go_ret2
 exact⟨by rw[uh HDO]; rfl,uh HB4⟩
theorem do_copy (v u:JV) (o:POp) (w:World) (hv:GdT v) (hl:(ct v).length≤100000) (hp:o.path.size≤1048576) (hs:o.src.size≤1048576) (m:JV) (hk:o.kind=5) (hg:getV v ((ptoks o.src.data.toList).getD [])=some m) :
  Calls Tryz.prog 48 #[.string (strOf (ct v)),.agg (opCs o)] w fun e w'=>e = .returned (doR (doV v (xOf o u)))∧Below w.heap.size w w':=by
 obtain⟨hpn,hpt⟩:=toks_bnd o.path hp
 obtain⟨hsn,hst⟩:=toks_bnd o.src hs
 have hX:xOf o u=⟨o.kind,(ptoks o.path.data.toList).getD [],(ptoks o.src.data.toList).getD [],u⟩:=rfl
 have kA:=heap_alloc_new w (.cells (opCs o) 59)
 have bA:=alloc_below w (.cells (opCs o) 59)
 have hOA:OpIn (w.alloc (.cells (opCs o) 59)) w.heap.size o:=kA
 have HT1:=hide (specToks_walk o.path (w.alloc (.cells (opCs o) 59)) hp)
 have HT2:Hid (∀ wx,Calls Tryz.prog 93 #[.string o.src] wx fun e w'=>∃ v,e = .returned (.tuple #[v,.bool (ptoks o.src.data.toList).isSome])∧OT w' wx.heap.size v ((ptoks o.src.data.toList).getD [])∧Below wx.heap.size wx w'):=fun wx=>specToks_walk o.src wx hs
 have HOA:=hide hOA
 have HBA:=hide bA
 have hc:=hOA.c
 generalize (ptoks o.path.data.toList).isSome=ok1 at *
 generalize (ptoks o.src.data.toList).isSome=ok2 at *
 generalize (ptoks o.path.data.toList).getD []=ps at *
 generalize (ptoks o.src.data.toList).getD []=fs at *
 have HGP:Hid (∀ (a:Option Addr) (g cap:Nat) (wx:World),SS wx a g 0 (ps.map baT)→Calls Tryz.prog 94 #[.string (strOf (ct v)),.slice a ps.length cap] wx fun e w'=>e = .returned (getR v ps)∧Below wx.heap.size wx w'):=fun a g cap wx h=>get_walkS v hv.ok hv.tw (by omega) a g 0 cap ps wx h hpn hpt
 obtain⟨gx,gb,hgr⟩ : ∃ (gx:ByteArray) (gb:Bool),getR v ps = .tuple #[.string gx,.bool gb]:=by
  unfold getR; cases getV v ps with
  | none=>exact⟨_,_,rfl⟩
  | some x=>exact⟨_,_,rfl⟩
 rw[hgr] at HGP
 have HGF:Hid (∀ (a:Option Addr) (g cap:Nat) (wx:World),SS wx a g 0 (fs.map baT)→Calls Tryz.prog 94 #[.string (strOf (ct v)),.slice a fs.length cap] wx fun e w'=>e = .returned (getR v fs)∧Below wx.heap.size wx w'):=fun a g cap wx h=>get_walkS v hv.ok hv.tw (by omega) a g 0 cap fs wx h hsn hst
 rw[getR_some hg] at HGF
 have hgm:=hv.get hg
 have hlm:=getV_le hv hg
 have HPU:Hid (∀ (a:Option Addr) (g cap:Nat) (wx:World),ps.length≤cap→SS wx a g 0 (ps.map baT)→Calls Tryz.prog 96 #[.string (strOf (ct v)),.slice a ps.length cap,.string (strOf (ct m))] wx fun e w'=>e = .returned (putR (putV v ps m))∧Below wx.heap.size wx w'):=fun a g cap wx hc h=>put_any v m ps a g 0 cap wx hv hgm hl (by omega) hpt hpn hc h
 have HDO:Hid (doV v (xOf o u)=optC 3 (putV v ps m)):=by show _=_; rw[hX]; unfold doV; simp only; rw[hk,if_neg (by decide),if_neg (by decide),if_neg (by decide),if_neg (by decide),if_pos rfl,hg]
 have k1:(o.kind == 1)=false:=by rw[hk]; rfl
 have k2:(o.kind == 2)=false:=by rw[hk]; rfl
 have k3:(o.kind == 3)=false:=by rw[hk]; rfl
 have k4:(o.kind == 4)=false:=by rw[hk]; rfl
 have k5:(o.kind == 5)=true:=by rw[hk]; rfl
 have k6:(o.kind == 6)=false:=by rw[hk]; rfl
 clear kA bA hOA
 clear hX hp hs hsn hst hgr hg hk hgm hlm hv hl hpt hpn
 generalize doV v (xOf o u)=DO at *
 generalize strOf (ct v)=sv at *
 generalize strOf (ct m)=sm at *
 go_enter Tryz.func48,Tryz.ntmps48
 go_wp2_with fail
 generalize (w.alloc (.cells (opCs o) 59))=wA at *
 refine (uh HT1).mono ?_
 rintro e w1 ⟨v1,rfl,o1,b1⟩
 have hO1:=(uh HOA).below b1
 obtain⟨p10,p11,p12,p13⟩:=hO1.c
 obtain⟨a1,g1,cap1,rfl,ss1,hcap1⟩:=OT.all o1
 have HOT1:=hide o1
 have HSS1:=hide ss1
 have HO1:=hide hO1
 have HB1:=hide (below_next (uh HBA) b1)
 have HT2':=hide (uh HT2 w1)
 clear HT1 HT2 o1 ss1 b1 hO1 HOA HBA hc
 go_wp2_with fail
 refine (uh HT2').mono ?_
 rintro e w2 ⟨v2,rfl,o2,b2⟩
 have hO2:=(uh HO1).below b2
 obtain⟨q10,q11,q12,q13⟩:=hO2.c
 obtain⟨a2,g2,cap2,rfl,ss2,hcap2⟩:=OT.all o2
 have HOT2:=hide o2
 have HOT12:=hide (own_below (uh HOT1) b2)
 have HSS2:=hide ss2
 have HSS12:=hide ((uh HSS1).below b2)
 have HO2:=hide hO2
 have HB2:=hide (below_next (uh HB1) b2)
 have HG2:=hide (uh HGP a1 g1 cap1 w2 (uh HSS12))
 clear HT2' o2 ss2 b2 hO2 HO1 HB1 HGP HSS1 HOT1 p10 p11 p12 p13
 go_wp2_with fail
 refine (uh HG2).mono ?_
 rintro e w3 ⟨rfl,b3⟩
 have hO3:=(uh HO2).below b3
 obtain⟨r10,r11,r12,r13⟩:=hO3.c
 have HO3:=hide hO3
 have HSS1:=hide ((uh HSS12).below b3)
 have HSS2':=hide ((uh HSS2).below b3)
 have HOT1:=hide (own_below (uh HOT12) b3)
 have HOT2':=hide (own_below (uh HOT2) b3)
 have HB3:=hide (below_next (uh HB2) b3)
 clear HG2 b3 hO3 HO2 HSS12 HSS2 HOT12 HOT2 HB2 q10 q11 q12 q13
 have HF3:=hide (uh HGF a2 g2 cap2 w3 (uh HSS2'))
 clear HGF
 go_wp2_with fail
 refine (uh HF3).mono ?_
 rintro e w4 ⟨rfl,b4⟩
 have hO4:=(uh HO3).below b4
 obtain⟨s10,s11,s12,s13⟩:=hO4.c
 have HO4:=hide hO4
 have HSS14:=hide ((uh HSS1).below b4)
 have HSS24:=hide ((uh HSS2').below b4)
 have HOT14:=hide (own_below (uh HOT1) b4)
 have HOT24:=hide (own_below (uh HOT2') b4)
 have HB4:=hide (below_next (uh HB3) b4)
 clear HF3 b4 hO4 HO3 HSS1 HSS2' HOT1 HOT2' HB3 r10 r11 r12 r13
 have HP:=hide (uh HPU a1 g1 cap1 w4 hcap1 (uh HSS14))
 clear HPU
 cases hpv:putV v ps m with
 | none=>
  rw[hpv] at HP HDO
  rw[show putR none = .tuple #[.string ⟨#[]⟩,.bool false] from rfl] at HP
  clear hpv
  go_wp2_with fail
  refine (uh HP).mono ?_
  rintro e w9 ⟨rfl,b9⟩
  have HB9:=hide (below_next (uh HB4) b9)
  clear HP b9
  go_wp2
  go_ret2
  exact⟨by rw[uh HDO]; rfl,uh HB9⟩
 | some r=>
  rw[hpv] at HP HDO
  rw[show putR (some r) = .tuple #[.string (strOf (ct r)),.bool true] from rfl] at HP
  clear hpv
  go_wp2_with fail
  refine (uh HP).mono ?_
  rintro e w9 ⟨rfl,b9⟩
  have HB9:=hide (below_next (uh HB4) b9)
  clear HP b9
  go_wp2
  go_ret2
  exact⟨by rw[uh HDO]; rfl,uh HB9⟩
theorem do_moveE (v u:JV) (o:POp) (w:World) (hv:GdT v) (hl:(ct v).length≤100000) (hp:o.path.size≤1048576) (hs:o.src.size≤1048576) (m:JV) (hk:o.kind=4) (hg:getV v ((ptoks o.src.data.toList).getD [])=some m) (he:(ptoks o.src.data.toList).getD []=(ptoks o.path.data.toList).getD []) :
  Calls Tryz.prog 48 #[.string (strOf (ct v)),.agg (opCs o)] w fun e w'=>e = .returned (doR (doV v (xOf o u)))∧Below w.heap.size w w':=by
 obtain⟨hpn,hpt⟩:=toks_bnd o.path hp
 obtain⟨hsn,hst⟩:=toks_bnd o.src hs
 have hX:xOf o u=⟨o.kind,(ptoks o.path.data.toList).getD [],(ptoks o.src.data.toList).getD [],u⟩:=rfl
 have kA:=heap_alloc_new w (.cells (opCs o) 59)
 have bA:=alloc_below w (.cells (opCs o) 59)
 have hOA:OpIn (w.alloc (.cells (opCs o) 59)) w.heap.size o:=kA
 have HT1:=hide (specToks_walk o.path (w.alloc (.cells (opCs o) 59)) hp)
 have HT2:Hid (∀ wx,Calls Tryz.prog 93 #[.string o.src] wx fun e w'=>∃ v,e = .returned (.tuple #[v,.bool (ptoks o.src.data.toList).isSome])∧OT w' wx.heap.size v ((ptoks o.src.data.toList).getD [])∧Below wx.heap.size wx w'):=fun wx=>specToks_walk o.src wx hs
 have HOA:=hide hOA
 have HBA:=hide bA
 have hc:=hOA.c
 generalize (ptoks o.path.data.toList).isSome=ok1 at *
 generalize (ptoks o.src.data.toList).isSome=ok2 at *
 generalize (ptoks o.path.data.toList).getD []=ps at *
 generalize (ptoks o.src.data.toList).getD []=fs at *
 have HGP:Hid (∀ (a:Option Addr) (g cap:Nat) (wx:World),SS wx a g 0 (ps.map baT)→Calls Tryz.prog 94 #[.string (strOf (ct v)),.slice a ps.length cap] wx fun e w'=>e = .returned (getR v ps)∧Below wx.heap.size wx w'):=fun a g cap wx h=>get_walkS v hv.ok hv.tw (by omega) a g 0 cap ps wx h hpn hpt
 obtain⟨gx,gb,hgr⟩ : ∃ (gx:ByteArray) (gb:Bool),getR v ps = .tuple #[.string gx,.bool gb]:=by
  unfold getR; cases getV v ps with
  | none=>exact⟨_,_,rfl⟩
  | some x=>exact⟨_,_,rfl⟩
 rw[hgr] at HGP
 have HGF:Hid (∀ (a:Option Addr) (g cap:Nat) (wx:World),SS wx a g 0 (fs.map baT)→Calls Tryz.prog 94 #[.string (strOf (ct v)),.slice a fs.length cap] wx fun e w'=>e = .returned (getR v fs)∧Below wx.heap.size wx w'):=fun a g cap wx h=>get_walkS v hv.ok hv.tw (by omega) a g 0 cap fs wx h hsn hst
 have HH:Hid (∀ (wx:World) (a b:Value) (B1 B2:Nat),OT wx B1 a fs→OT wx B2 b ps→Calls Tryz.prog 97 #[a,b] wx fun e w'=>e = .returned (.bool (pre fs ps))∧Below wx.heap.size wx w'):=fun wx a b B1 B2 h1 h2=>(heads_walk a b fs ps wx h1 h2 hsn hpn).mono (by rintro e w' ⟨rfl,n,rfl⟩; exact⟨rfl,below_draws wx n _⟩)
 have HH2:Hid (∀ (wx:World) (a b:Value) (B1 B2:Nat),OT wx B1 a ps→OT wx B2 b fs→Calls Tryz.prog 97 #[a,b] wx fun e w'=>e = .returned (.bool (pre ps fs))∧Below wx.heap.size wx w'):=fun wx a b B1 B2 h1 h2=>(heads_walk a b ps fs wx h1 h2 hpn hsn).mono (by rintro e w' ⟨rfl,n,rfl⟩; exact⟨rfl,below_draws wx n _⟩)
 rw[getR_some hg] at HGF
 rw[show pre fs ps=true by rw[he]; exact pre_refl _] at HH
 rw[show pre ps fs=true by rw[he]; exact pre_refl _] at HH2
 have HDO:Hid (doV v (xOf o u) = .inr v):=by show _=_; rw[hX]; unfold doV; simp only; rw[hk,if_neg (by decide),if_neg (by decide),if_neg (by decide),if_pos rfl,hg]; simp only; rw[if_pos he]
 have k1:(o.kind == 1)=false:=by rw[hk]; rfl
 have k2:(o.kind == 2)=false:=by rw[hk]; rfl
 have k3:(o.kind == 3)=false:=by rw[hk]; rfl
 have k4:(o.kind == 4)=true:=by rw[hk]; rfl
 have k5:(o.kind == 5)=false:=by rw[hk]; rfl
 have k6:(o.kind == 6)=false:=by rw[hk]; rfl
 clear kA bA hOA
 clear hX hp hs hsn hst hgr hg hk hv hl hpt hpn he
 generalize doV v (xOf o u)=DO at *
 generalize strOf (ct m)=sm at *
 go_enter Tryz.func48,Tryz.ntmps48
 go_wp2_with fail
 generalize (w.alloc (.cells (opCs o) 59))=wA at *
 refine (uh HT1).mono ?_
 rintro e w1 ⟨v1,rfl,o1,b1⟩
 have hO1:=(uh HOA).below b1
 obtain⟨p10,p11,p12,p13⟩:=hO1.c
 obtain⟨a1,g1,cap1,rfl,ss1,hcap1⟩:=OT.all o1
 have HOT1:=hide o1
 have HSS1:=hide ss1
 have HO1:=hide hO1
 have HB1:=hide (below_next (uh HBA) b1)
 have HT2':=hide (uh HT2 w1)
 clear HT1 HT2 o1 ss1 b1 hO1 HOA HBA hc
 go_wp2_with fail
 refine (uh HT2').mono ?_
 rintro e w2 ⟨v2,rfl,o2,b2⟩
 have hO2:=(uh HO1).below b2
 obtain⟨q10,q11,q12,q13⟩:=hO2.c
 obtain⟨a2,g2,cap2,rfl,ss2,hcap2⟩:=OT.all o2
 have HOT2:=hide o2
 have HOT12:=hide (own_below (uh HOT1) b2)
 have HSS2:=hide ss2
 have HSS12:=hide ((uh HSS1).below b2)
 have HO2:=hide hO2
 have HB2:=hide (below_next (uh HB1) b2)
 have HG2:=hide (uh HGP a1 g1 cap1 w2 (uh HSS12))
 clear HT2' o2 ss2 b2 hO2 HO1 HB1 HGP HSS1 HOT1 p10 p11 p12 p13
 go_wp2_with fail
 refine (uh HG2).mono ?_
 rintro e w3 ⟨rfl,b3⟩
 have hO3:=(uh HO2).below b3
 obtain⟨r10,r11,r12,r13⟩:=hO3.c
 have HO3:=hide hO3
 have HSS1:=hide ((uh HSS12).below b3)
 have HSS2':=hide ((uh HSS2).below b3)
 have HOT1:=hide (own_below (uh HOT12) b3)
 have HOT2':=hide (own_below (uh HOT2) b3)
 have HB3:=hide (below_next (uh HB2) b3)
 clear HG2 b3 hO3 HO2 HSS12 HSS2 HOT12 HOT2 HB2 q10 q11 q12 q13
 have HF3:=hide (uh HGF a2 g2 cap2 w3 (uh HSS2'))
 clear HGF
 go_wp2_with fail
 refine (uh HF3).mono ?_
 rintro e w4 ⟨rfl,b4⟩
 have hO4:=(uh HO3).below b4
 obtain⟨s10,s11,s12,s13⟩:=hO4.c
 have HO4:=hide hO4
 have HSS14:=hide ((uh HSS1).below b4)
 have HSS24:=hide ((uh HSS2').below b4)
 have HOT14:=hide (own_below (uh HOT1) b4)
 have HOT24:=hide (own_below (uh HOT2') b4)
 have HB4:=hide (below_next (uh HB3) b4)
 clear HF3 b4 hO4 HO3 HSS1 HSS2' HOT1 HOT2' HB3 r10 r11 r12 r13
 have HX4:=hide (uh HH w4 _ _ _ _ (uh HOT24) (uh HOT14))
 go_wp2_with fail
 refine (uh HX4).mono ?_
 rintro e w5 ⟨rfl,b5⟩
 have hO5:=(uh HO4).below b5
 obtain⟨s50,s51,s52,s53⟩:=hO5.c
 have HO5:=hide hO5
 have HSS15:=hide ((uh HSS14).below b5)
 have HSS25:=hide ((uh HSS24).below b5)
 have HOT15:=hide (own_below (uh HOT14) b5)
 have HOT25:=hide (own_below (uh HOT24) b5)
 have HB5:=hide (below_next (uh HB4) b5)
 clear HX4 b5 hO5 HO4 HSS14 HSS24 HOT14 HOT24 HB4
 have HX5:=hide (uh HH2 w5 _ _ _ _ (uh HOT15) (uh HOT25))
 go_wp2_with fail
 refine (uh HX5).mono ?_
 rintro e w6 ⟨rfl,b6⟩
 have hO6:=(uh HO5).below b6
 obtain⟨s60,s61,s62,s63⟩:=hO6.c
 have HO6:=hide hO6
 have HSS16:=hide ((uh HSS15).below b6)
 have HSS26:=hide ((uh HSS25).below b6)
 have HOT16:=hide (own_below (uh HOT15) b6)
 have HOT26:=hide (own_below (uh HOT25) b6)
 have HB6:=hide (below_next (uh HB5) b6)
 clear HX5 b6 hO6 HO5 HSS15 HSS25 HOT15 HOT25 HB5
 go_wp2
 go_ret2
 exact⟨by rw[uh HDO]; rfl,uh HB6⟩
theorem do_moveI (v u:JV) (o:POp) (w:World) (hv:GdT v) (hl:(ct v).length≤100000) (hp:o.path.size≤1048576) (hs:o.src.size≤1048576) (m:JV) (hk:o.kind=4) (hg:getV v ((ptoks o.src.data.toList).getD [])=some m) (hne:(ptoks o.src.data.toList).getD []≠(ptoks o.path.data.toList).getD []) (hpre:pre ((ptoks o.src.data.toList).getD []) ((ptoks o.path.data.toList).getD [])=true) :
  Calls Tryz.prog 48 #[.string (strOf (ct v)),.agg (opCs o)] w fun e w'=>e = .returned (doR (doV v (xOf o u)))∧Below w.heap.size w w':=by
 obtain⟨hpn,hpt⟩:=toks_bnd o.path hp
 obtain⟨hsn,hst⟩:=toks_bnd o.src hs
 have hX:xOf o u=⟨o.kind,(ptoks o.path.data.toList).getD [],(ptoks o.src.data.toList).getD [],u⟩:=rfl
 have kA:=heap_alloc_new w (.cells (opCs o) 59)
 have bA:=alloc_below w (.cells (opCs o) 59)
 have hOA:OpIn (w.alloc (.cells (opCs o) 59)) w.heap.size o:=kA
 have HT1:=hide (specToks_walk o.path (w.alloc (.cells (opCs o) 59)) hp)
 have HT2:Hid (∀ wx,Calls Tryz.prog 93 #[.string o.src] wx fun e w'=>∃ v,e = .returned (.tuple #[v,.bool (ptoks o.src.data.toList).isSome])∧OT w' wx.heap.size v ((ptoks o.src.data.toList).getD [])∧Below wx.heap.size wx w'):=fun wx=>specToks_walk o.src wx hs
 have HOA:=hide hOA
 have HBA:=hide bA
 have hc:=hOA.c
 generalize (ptoks o.path.data.toList).isSome=ok1 at *
 generalize (ptoks o.src.data.toList).isSome=ok2 at *
 generalize (ptoks o.path.data.toList).getD []=ps at *
 generalize (ptoks o.src.data.toList).getD []=fs at *
 have HGP:Hid (∀ (a:Option Addr) (g cap:Nat) (wx:World),SS wx a g 0 (ps.map baT)→Calls Tryz.prog 94 #[.string (strOf (ct v)),.slice a ps.length cap] wx fun e w'=>e = .returned (getR v ps)∧Below wx.heap.size wx w'):=fun a g cap wx h=>get_walkS v hv.ok hv.tw (by omega) a g 0 cap ps wx h hpn hpt
 obtain⟨gx,gb,hgr⟩ : ∃ (gx:ByteArray) (gb:Bool),getR v ps = .tuple #[.string gx,.bool gb]:=by
  unfold getR; cases getV v ps with
  | none=>exact⟨_,_,rfl⟩
  | some x=>exact⟨_,_,rfl⟩
 rw[hgr] at HGP
 have HGF:Hid (∀ (a:Option Addr) (g cap:Nat) (wx:World),SS wx a g 0 (fs.map baT)→Calls Tryz.prog 94 #[.string (strOf (ct v)),.slice a fs.length cap] wx fun e w'=>e = .returned (getR v fs)∧Below wx.heap.size wx w'):=fun a g cap wx h=>get_walkS v hv.ok hv.tw (by omega) a g 0 cap fs wx h hsn hst
 have HH:Hid (∀ (wx:World) (a b:Value) (B1 B2:Nat),OT wx B1 a fs→OT wx B2 b ps→Calls Tryz.prog 97 #[a,b] wx fun e w'=>e = .returned (.bool (pre fs ps))∧Below wx.heap.size wx w'):=fun wx a b B1 B2 h1 h2=>(heads_walk a b fs ps wx h1 h2 hsn hpn).mono (by rintro e w' ⟨rfl,n,rfl⟩; exact⟨rfl,below_draws wx n _⟩)
 have HH2:Hid (∀ (wx:World) (a b:Value) (B1 B2:Nat),OT wx B1 a ps→OT wx B2 b fs→Calls Tryz.prog 97 #[a,b] wx fun e w'=>e = .returned (.bool (pre ps fs))∧Below wx.heap.size wx w'):=fun wx a b B1 B2 h1 h2=>(heads_walk a b ps fs wx h1 h2 hpn hsn).mono (by rintro e w' ⟨rfl,n,rfl⟩; exact⟨rfl,below_draws wx n _⟩)
 rw[getR_some hg] at HGF
 rw[hpre] at HH
 have hp2:pre ps fs=false:=by
  cases hb:pre ps fs with
  | false=>rfl
  | true=>exact absurd (pre_both hpre hb) hne
 rw[hp2] at HH2
 have HDO:Hid (doV v (xOf o u) = .inl 6):=by show _=_; rw[hX]; unfold doV; simp only; rw[hk,if_neg (by decide),if_neg (by decide),if_neg (by decide),if_pos rfl,hg]; simp only; rw[if_neg hne,if_pos (by rw[← pre_is]; exact hpre)]
 have k1:(o.kind == 1)=false:=by rw[hk]; rfl
 have k2:(o.kind == 2)=false:=by rw[hk]; rfl
 have k3:(o.kind == 3)=false:=by rw[hk]; rfl
 have k4:(o.kind == 4)=true:=by rw[hk]; rfl
 have k5:(o.kind == 5)=false:=by rw[hk]; rfl
 have k6:(o.kind == 6)=false:=by rw[hk]; rfl
 clear kA bA hOA
 clear hX hp hs hsn hst hgr hg hk hv hl hpt hpn hne hpre hp2
 generalize doV v (xOf o u)=DO at *
 generalize strOf (ct v)=sv at *
 generalize strOf (ct m)=sm at *
 go_enter Tryz.func48,Tryz.ntmps48
 go_wp2_with fail
 generalize (w.alloc (.cells (opCs o) 59))=wA at *
 refine (uh HT1).mono ?_
 rintro e w1 ⟨v1,rfl,o1,b1⟩
 have hO1:=(uh HOA).below b1
 obtain⟨p10,p11,p12,p13⟩:=hO1.c
 obtain⟨a1,g1,cap1,rfl,ss1,hcap1⟩:=OT.all o1
 have HOT1:=hide o1
 have HSS1:=hide ss1
 have HO1:=hide hO1
 have HB1:=hide (below_next (uh HBA) b1)
 have HT2':=hide (uh HT2 w1)
 clear HT1 HT2 o1 ss1 b1 hO1 HOA HBA hc
 go_wp2_with fail
 refine (uh HT2').mono ?_
 rintro e w2 ⟨v2,rfl,o2,b2⟩
 have hO2:=(uh HO1).below b2
 obtain⟨q10,q11,q12,q13⟩:=hO2.c
 obtain⟨a2,g2,cap2,rfl,ss2,hcap2⟩:=OT.all o2
 have HOT2:=hide o2
 have HOT12:=hide (own_below (uh HOT1) b2)
 have HSS2:=hide ss2
 have HSS12:=hide ((uh HSS1).below b2)
 have HO2:=hide hO2
 have HB2:=hide (below_next (uh HB1) b2)
 have HG2:=hide (uh HGP a1 g1 cap1 w2 (uh HSS12))
 clear HT2' o2 ss2 b2 hO2 HO1 HB1 HGP HSS1 HOT1 p10 p11 p12 p13
 go_wp2_with fail
 refine (uh HG2).mono ?_
 rintro e w3 ⟨rfl,b3⟩
 have hO3:=(uh HO2).below b3
 obtain⟨r10,r11,r12,r13⟩:=hO3.c
 have HO3:=hide hO3
 have HSS1:=hide ((uh HSS12).below b3)
 have HSS2':=hide ((uh HSS2).below b3)
 have HOT1:=hide (own_below (uh HOT12) b3)
 have HOT2':=hide (own_below (uh HOT2) b3)
 have HB3:=hide (below_next (uh HB2) b3)
 clear HG2 b3 hO3 HO2 HSS12 HSS2 HOT12 HOT2 HB2 q10 q11 q12 q13
 have HF3:=hide (uh HGF a2 g2 cap2 w3 (uh HSS2'))
 clear HGF
 go_wp2_with fail
 refine (uh HF3).mono ?_
 rintro e w4 ⟨rfl,b4⟩
 have hO4:=(uh HO3).below b4
 obtain⟨s10,s11,s12,s13⟩:=hO4.c
 have HO4:=hide hO4
 have HSS14:=hide ((uh HSS1).below b4)
 have HSS24:=hide ((uh HSS2').below b4)
 have HOT14:=hide (own_below (uh HOT1) b4)
 have HOT24:=hide (own_below (uh HOT2') b4)
 have HB4:=hide (below_next (uh HB3) b4)
 clear HF3 b4 hO4 HO3 HSS1 HSS2' HOT1 HOT2' HB3 r10 r11 r12 r13
 have HX4:=hide (uh HH w4 _ _ _ _ (uh HOT24) (uh HOT14))
 go_wp2_with fail
 refine (uh HX4).mono ?_
 rintro e w5 ⟨rfl,b5⟩
 have hO5:=(uh HO4).below b5
 obtain⟨s50,s51,s52,s53⟩:=hO5.c
 have HO5:=hide hO5
 have HSS15:=hide ((uh HSS14).below b5)
 have HSS25:=hide ((uh HSS24).below b5)
 have HOT15:=hide (own_below (uh HOT14) b5)
 have HOT25:=hide (own_below (uh HOT24) b5)
 have HB5:=hide (below_next (uh HB4) b5)
 clear HX4 b5 hO5 HO4 HSS14 HSS24 HOT14 HOT24 HB4
 have HX5:=hide (uh HH2 w5 _ _ _ _ (uh HOT15) (uh HOT25))
 go_wp2_with fail
 refine (uh HX5).mono ?_
 rintro e w6 ⟨rfl,b6⟩
 have hO6:=(uh HO5).below b6
 obtain⟨s60,s61,s62,s63⟩:=hO6.c
 have HO6:=hide hO6
 have HSS16:=hide ((uh HSS15).below b6)
 have HSS26:=hide ((uh HSS25).below b6)
 have HOT16:=hide (own_below (uh HOT15) b6)
 have HOT26:=hide (own_below (uh HOT25) b6)
 have HB6:=hide (below_next (uh HB5) b6)
 clear HX5 b6 hO6 HO5 HSS15 HSS25 HOT15 HOT25 HB5
 have HX6:=hide (uh HH w6 _ _ _ _ (uh HOT26) (uh HOT16))
 go_wp2_with fail
 refine (uh HX6).mono ?_
 rintro e w7 ⟨rfl,b7⟩
 have hO7:=(uh HO6).below b7
 obtain⟨s70,s71,s72,s73⟩:=hO7.c
 have HO7:=hide hO7
 have HSS17:=hide ((uh HSS16).below b7)
 have HSS27:=hide ((uh HSS26).below b7)
 have HOT17:=hide (own_below (uh HOT16) b7)
 have HOT27:=hide (own_below (uh HOT26) b7)
 have HB7:=hide (below_next (uh HB6) b7)
 clear HX6 b7 hO7 HO6 HSS16 HSS26 HOT16 HOT26 HB6
 go_wp2
 go_ret2
 exact⟨by rw[uh HDO]; rfl,uh HB7⟩
theorem do_move (v u:JV) (o:POp) (w:World) (hv:GdT v) (hl:(ct v).length≤100000) (hp:o.path.size≤1048576) (hs:o.src.size≤1048576) (m:JV) (hk:o.kind=4) (hg:getV v ((ptoks o.src.data.toList).getD [])=some m) (hpre:pre ((ptoks o.src.data.toList).getD []) ((ptoks o.path.data.toList).getD [])=false) :
  Calls Tryz.prog 48 #[.string (strOf (ct v)),.agg (opCs o)] w fun e w'=>e = .returned (doR (doV v (xOf o u)))∧Below w.heap.size w w':=by
 obtain⟨hpn,hpt⟩:=toks_bnd o.path hp
 obtain⟨hsn,hst⟩:=toks_bnd o.src hs
 have hX:xOf o u=⟨o.kind,(ptoks o.path.data.toList).getD [],(ptoks o.src.data.toList).getD [],u⟩:=rfl
 have kA:=heap_alloc_new w (.cells (opCs o) 59)
 have bA:=alloc_below w (.cells (opCs o) 59)
 have hOA:OpIn (w.alloc (.cells (opCs o) 59)) w.heap.size o:=kA
 have HT1:=hide (specToks_walk o.path (w.alloc (.cells (opCs o) 59)) hp)
 have HT2:Hid (∀ wx,Calls Tryz.prog 93 #[.string o.src] wx fun e w'=>∃ v,e = .returned (.tuple #[v,.bool (ptoks o.src.data.toList).isSome])∧OT w' wx.heap.size v ((ptoks o.src.data.toList).getD [])∧Below wx.heap.size wx w'):=fun wx=>specToks_walk o.src wx hs
 have HOA:=hide hOA
 have HBA:=hide bA
 have hc:=hOA.c
 generalize (ptoks o.path.data.toList).isSome=ok1 at *
 generalize (ptoks o.src.data.toList).isSome=ok2 at *
 generalize (ptoks o.path.data.toList).getD []=ps at *
 generalize (ptoks o.src.data.toList).getD []=fs at *
 have HGP:Hid (∀ (a:Option Addr) (g cap:Nat) (wx:World),SS wx a g 0 (ps.map baT)→Calls Tryz.prog 94 #[.string (strOf (ct v)),.slice a ps.length cap] wx fun e w'=>e = .returned (getR v ps)∧Below wx.heap.size wx w'):=fun a g cap wx h=>get_walkS v hv.ok hv.tw (by omega) a g 0 cap ps wx h hpn hpt
 obtain⟨gx,gb,hgr⟩ : ∃ (gx:ByteArray) (gb:Bool),getR v ps = .tuple #[.string gx,.bool gb]:=by
  unfold getR; cases getV v ps with
  | none=>exact⟨_,_,rfl⟩
  | some x=>exact⟨_,_,rfl⟩
 rw[hgr] at HGP
 have HGF:Hid (∀ (a:Option Addr) (g cap:Nat) (wx:World),SS wx a g 0 (fs.map baT)→Calls Tryz.prog 94 #[.string (strOf (ct v)),.slice a fs.length cap] wx fun e w'=>e = .returned (getR v fs)∧Below wx.heap.size wx w'):=fun a g cap wx h=>get_walkS v hv.ok hv.tw (by omega) a g 0 cap fs wx h hsn hst
 have HH:Hid (∀ (wx:World) (a b:Value) (B1 B2:Nat),OT wx B1 a fs→OT wx B2 b ps→Calls Tryz.prog 97 #[a,b] wx fun e w'=>e = .returned (.bool (pre fs ps))∧Below wx.heap.size wx w'):=fun wx a b B1 B2 h1 h2=>(heads_walk a b fs ps wx h1 h2 hsn hpn).mono (by rintro e w' ⟨rfl,n,rfl⟩; exact⟨rfl,below_draws wx n _⟩)
 have HH2:Hid (∀ (wx:World) (a b:Value) (B1 B2:Nat),OT wx B1 a ps→OT wx B2 b fs→Calls Tryz.prog 97 #[a,b] wx fun e w'=>e = .returned (.bool (pre ps fs))∧Below wx.heap.size wx w'):=fun wx a b B1 B2 h1 h2=>(heads_walk a b ps fs wx h1 h2 hpn hsn).mono (by rintro e w' ⟨rfl,n,rfl⟩; exact⟨rfl,below_draws wx n _⟩)
 rw[getR_some hg] at HGF
 rw[hpre] at HH
 have hgm:=hv.get hg
 have hlm:=getV_le hv hg
 have hne:fs≠ps:=fun e=>by rw[e,pre_refl] at hpre; cases hpre
 have hfne:fs≠[]:=fun e=>by rw[e,pre_is] at hpre; simp at hpre
 have HDR:Hid (∀ (a:Option Addr) (g cap:Nat) (wx:World),fs.length≤cap→SS wx a g 0 (fs.map baT)→∃ r,dropV v fs=some r∧GdT r∧(ct r).length≤(ct v).length∧Calls Tryz.prog 98 #[.string (strOf (ct v)),.slice a fs.length cap] wx fun e w'=>e = .returned (.string (strOf (ct r)))∧Below wx.heap.size wx w'):=fun a g cap wx hc h=>drop_any v m fs a g 0 cap wx hfne hv hg hl hst hsn hc h
 have HPU:Hid (∀ (r:JV) (a:Option Addr) (g cap:Nat) (wx:World),GdT r→(ct r).length≤(ct v).length→ps.length≤cap→SS wx a g 0 (ps.map baT)→Calls Tryz.prog 96 #[.string (strOf (ct r)),.slice a ps.length cap,.string (strOf (ct m))] wx fun e w'=>e = .returned (putR (putV r ps m))∧Below wx.heap.size wx w'):=fun r a g cap wx hr hrl hc h=>put_any r m ps a g 0 cap wx hr hgm (by omega) (by omega) hpt hpn hc h
 have HDO:Hid (∀ r,dropV v fs=some r→doV v (xOf o u)=optC 3 (putV r ps m)):=fun r hr=>by rw[hX]; unfold doV; simp only; rw[hk,if_neg (by decide),if_neg (by decide),if_neg (by decide),if_pos rfl,hg]; simp only; rw[if_neg hne,if_neg (by rw[← pre_is,hpre]; simp),hr]
 have k1:(o.kind == 1)=false:=by rw[hk]; rfl
 have k2:(o.kind == 2)=false:=by rw[hk]; rfl
 have k3:(o.kind == 3)=false:=by rw[hk]; rfl
 have k4:(o.kind == 4)=true:=by rw[hk]; rfl
 have k5:(o.kind == 5)=false:=by rw[hk]; rfl
 have k6:(o.kind == 6)=false:=by rw[hk]; rfl
 clear kA bA hOA
 clear hX hp hs hsn hst hgr hg hk hgm hlm hv hpt hpn hne hpre hfne HH2
 generalize doV v (xOf o u)=DO at *
 generalize strOf (ct m)=sm at *
 go_enter Tryz.func48,Tryz.ntmps48
 go_wp2_with fail
 generalize (w.alloc (.cells (opCs o) 59))=wA at *
 refine (uh HT1).mono ?_
 rintro e w1 ⟨v1,rfl,o1,b1⟩
 have hO1:=(uh HOA).below b1
 obtain⟨p10,p11,p12,p13⟩:=hO1.c
 obtain⟨a1,g1,cap1,rfl,ss1,hcap1⟩:=OT.all o1
 have HOT1:=hide o1
 have HSS1:=hide ss1
 have HO1:=hide hO1
 have HB1:=hide (below_next (uh HBA) b1)
 have HT2':=hide (uh HT2 w1)
 clear HT1 HT2 o1 ss1 b1 hO1 HOA HBA hc
 go_wp2_with fail
 refine (uh HT2').mono ?_
 rintro e w2 ⟨v2,rfl,o2,b2⟩
 have hO2:=(uh HO1).below b2
 obtain⟨q10,q11,q12,q13⟩:=hO2.c
 obtain⟨a2,g2,cap2,rfl,ss2,hcap2⟩:=OT.all o2
 have HOT2:=hide o2
 have HOT12:=hide (own_below (uh HOT1) b2)
 have HSS2:=hide ss2
 have HSS12:=hide ((uh HSS1).below b2)
 have HO2:=hide hO2
 have HB2:=hide (below_next (uh HB1) b2)
 have HG2:=hide (uh HGP a1 g1 cap1 w2 (uh HSS12))
 clear HT2' o2 ss2 b2 hO2 HO1 HB1 HGP HSS1 HOT1 p10 p11 p12 p13
 go_wp2_with fail
 refine (uh HG2).mono ?_
 rintro e w3 ⟨rfl,b3⟩
 have hO3:=(uh HO2).below b3
 obtain⟨r10,r11,r12,r13⟩:=hO3.c
 have HO3:=hide hO3
 have HSS1:=hide ((uh HSS12).below b3)
 have HSS2':=hide ((uh HSS2).below b3)
 have HOT1:=hide (own_below (uh HOT12) b3)
 have HOT2':=hide (own_below (uh HOT2) b3)
 have HB3:=hide (below_next (uh HB2) b3)
 clear HG2 b3 hO3 HO2 HSS12 HSS2 HOT12 HOT2 HB2 q10 q11 q12 q13
 have HF3:=hide (uh HGF a2 g2 cap2 w3 (uh HSS2'))
 clear HGF
 go_wp2_with fail
 refine (uh HF3).mono ?_
 rintro e w4 ⟨rfl,b4⟩
 have hO4:=(uh HO3).below b4
 obtain⟨s10,s11,s12,s13⟩:=hO4.c
 have HO4:=hide hO4
 have HSS14:=hide ((uh HSS1).below b4)
 have HSS24:=hide ((uh HSS2').below b4)
 have HOT14:=hide (own_below (uh HOT1) b4)
 have HOT24:=hide (own_below (uh HOT2') b4)
 have HB4:=hide (below_next (uh HB3) b4)
 clear HF3 b4 hO4 HO3 HSS1 HSS2' HOT1 HOT2' HB3 r10 r11 r12 r13
 have HX4:=hide (uh HH w4 _ _ _ _ (uh HOT24) (uh HOT14))
 go_wp2_with fail
 refine (uh HX4).mono ?_
 rintro e w5 ⟨rfl,b5⟩
 have hO5:=(uh HO4).below b5
 obtain⟨s50,s51,s52,s53⟩:=hO5.c
 have HO5:=hide hO5
 have HSS15:=hide ((uh HSS14).below b5)
 have HSS25:=hide ((uh HSS24).below b5)
 have HOT15:=hide (own_below (uh HOT14) b5)
 have HOT25:=hide (own_below (uh HOT24) b5)
 have HB5:=hide (below_next (uh HB4) b5)
 clear HX4 b5 hO5 HO4 HSS14 HSS24 HOT14 HOT24 HB4
 have HX5:=hide (uh HH w5 _ _ _ _ (uh HOT25) (uh HOT15))
 go_wp2_with fail
 refine (uh HX5).mono ?_
 rintro e w6 ⟨rfl,b6⟩
 have hO6:=(uh HO5).below b6
 obtain⟨s60,s61,s62,s63⟩:=hO6.c
 have HO6:=hide hO6
 have HSS16:=hide ((uh HSS15).below b6)
 have HSS26:=hide ((uh HSS25).below b6)
 have HOT16:=hide (own_below (uh HOT15) b6)
 have HOT26:=hide (own_below (uh HOT25) b6)
 have HB6:=hide (below_next (uh HB5) b6)
 clear HX5 b6 hO6 HO5 HSS15 HSS25 HOT15 HOT25 HB5
 obtain⟨r,hr,hrg,hrl,hcall⟩:=uh HDR a2 g2 cap2 w6 hcap2 (uh HSS26)
 have HC:=hide hcall
 have HDO2:=hide (uh HDO r hr)
 have HPU2:Hid (∀ (wx:World),SS wx a1 g1 0 (ps.map baT)→Calls Tryz.prog 96 #[.string (strOf (ct r)),.slice a1 ps.length cap1,.string sm] wx fun e w'=>e = .returned (putR (putV r ps m))∧Below wx.heap.size wx w'):=fun wx h=>uh HPU r a1 g1 cap1 wx hrg hrl hcap1 h
 clear HDR HDO HPU hr hrg hrl hcall
 go_wp2_with fail
 refine (uh HC).mono ?_
 rintro e w7 ⟨rfl,b7⟩
 have HB7:=hide (below_next (uh HB6) b7)
 have HP:=hide (uh HPU2 w7 ((uh HSS16).below b7))
 clear HC b7 HPU2
 cases hpv:putV r ps m with
 | none=>
  rw[hpv] at HP HDO2
  rw[show putR none = .tuple #[.string ⟨#[]⟩,.bool false] from rfl] at HP
  clear hpv
  go_wp2_with fail
  refine (uh HP).mono ?_
  rintro e w9 ⟨rfl,b9⟩
  have HB9:=hide (below_next (uh HB7) b9)
  clear HP b9
  go_wp2
  go_ret2
  exact⟨by rw[uh HDO2]; rfl,uh HB9⟩
 | some rr=>
  rw[hpv] at HP HDO2
  rw[show putR (some rr) = .tuple #[.string (strOf (ct rr)),.bool true] from rfl] at HP
  clear hpv
  go_wp2_with fail
  refine (uh HP).mono ?_
  rintro e w9 ⟨rfl,b9⟩
  have HB9:=hide (below_next (uh HB7) b9)
  clear HP b9
  go_wp2
  go_ret2
  exact⟨by rw[uh HDO2]; rfl,uh HB9⟩
theorem do_walk (v u:JV) (o:POp) (w:World) (hv:GdT v) (hl:(ct v).length≤100000) (hp:o.path.size≤1048576) (hs:o.src.size≤1048576) (hk1:1≤o.kind) (hk6:o.kind≤6) (hval:hasV o.kind=true→o.val=strOf (ct u)∧GdT u∧(ct u).length≤100000) :
  Calls Tryz.prog 48 #[.string (strOf (ct v)),.agg (opCs o)] w fun e w'=>e = .returned (doR (doV v (xOf o u)))∧Below w.heap.size w w':=by
 rcases (show o.kind=1∨o.kind=2∨o.kind=3∨o.kind=4∨o.kind=5∨o.kind=6 by omega) with hk | hk | hk | hk | hk | hk
 ·obtain⟨a,b,c⟩:=hval (by rw[hk]; rfl)
  exact do_add v u o w hv hl hp hs hk a b c
 ·cases hg:getV v ((ptoks o.path.data.toList).getD []) with
  | none=>exact do_removeN v u o w hv hl hp hs hk hg
  | some c=>
   by_cases h0:(ptoks o.path.data.toList).getD []=[]
   ·exact do_remove0 v u o w hv hl hp hs hk h0
   ·exact do_remove v u o w hv hl hp hs c hk h0 hg
 ·cases hg:getV v ((ptoks o.path.data.toList).getD []) with
  | none=>exact do_replaceN v u o w hv hl hp hs hk hg
  | some x=>
   obtain⟨a,b,c⟩:=hval (by rw[hk]; rfl)
   exact do_replace v u o w hv hl hp hs x hk a b c hg
 ·cases hg:getV v ((ptoks o.src.data.toList).getD []) with
  | none=>exact do_moveN v u o w hv hl hp hs hk hg
  | some m=>
   by_cases he:(ptoks o.src.data.toList).getD []=(ptoks o.path.data.toList).getD []
   ·exact do_moveE v u o w hv hl hp hs m hk hg he
   ·cases hpre:pre ((ptoks o.src.data.toList).getD []) ((ptoks o.path.data.toList).getD []) with
    | true=>exact do_moveI v u o w hv hl hp hs m hk hg he hpre
    | false=>exact do_move v u o w hv hl hp hs m hk hg hpre
 ·cases hg:getV v ((ptoks o.src.data.toList).getD []) with
  | none=>exact do_copyN v u o w hv hl hp hs hk hg
  | some m=>exact do_copy v u o w hv hl hp hs m hk hg
 ·cases hg:getV v ((ptoks o.path.data.toList).getD []) with
  | none=>exact do_testN v u o w hv hl hp hs hk hg
  | some c=>exact do_test v u o w hv hl hp hs c hk (hval (by rw[hk]; rfl)).1 hg
def valT (m:POp) : JV:=match readR m.val with
 | .inr u=>u
 | .inl _=>.nul
def xOp (m:POp) : XOp:=xOf m (valT m)
def apR (s:ByteArray) (ms:List POp) : ByteArray×Int×Int:=match readR s with
 | .inl _=>(⟨#[]⟩,1,0)
 | .inr v=>if 0≤badI ms then (⟨#[]⟩,2,badI ms) else match runV v (ms.map xOp) 0 with
  | .inl ci=>(⟨#[]⟩,(ci.1:Int),(ci.2:Int))
  | .inr r=>(strOf (ct r),0,0)
theorem opOk_val {m:POp} (h:opOk m=true) : 1≤m.kind∧m.kind≤6∧(hasV m.kind=true→readR m.val = .inr (valT m)∧m.val=strOf (ct (valT m))∧GdV (valT m)):=by
 unfold opOk at h
 simp only[Bool.and_eq_true,decide_eq_true_eq] at h
 refine⟨h.1.1.1.1,h.1.1.1.2,fun hv=>?_⟩
 have h5:=h.2
 rw[if_pos hv,goodT_iff] at h5
 obtain⟨u,h1,h2⟩:=h5
 have e:valT m=u:=by unfold valT; rw[h1]
 rw[e]
 exact⟨h1,h2.symm,GdV.of h1⟩
theorem badI_all {ms:List POp} (h:¬ 0≤badI ms) : ms.length≤100∧∀ m∈ms,opOk m=true:=by
 unfold badI at h
 split at h
 ·exact absurd (by omega) h
 ·rename_i hl
  split at h
  ·rename_i i _
   exact absurd (by omega) h
  ·rename_i hf
   rw[List.findIdx?_eq_none_iff] at hf
   exact⟨by omega,fun m hm=>by have:=hf m hm; simpa using this⟩
theorem limV_iff (v:JV) : limV v=true↔depV v≤100∧cntV v≤3000∧(ct v).length≤20000:=by
 unfold limV; simp[and_assoc]
theorem GdT.lim {v:JV} (h:GdT v) (hl:limV v=true) : GdV v:=by
 obtain⟨a,b,c⟩:=(limV_iff v).1 hl
 exact⟨h.rd,h.big,a,b,h.tw,h.ok,c⟩
theorem putV_len {v u r:JV} {ts:List (List UInt8)} (hv:GdT v) (h:putV v ts u=some r) : (ct r).length≤(ct v).length+(ct u).length+6*(lastT ts).length+4:=by
 unfold putV at h
 split at h
 ·injection h with h; subst h; omega
 ·unfold chgV at h
  obtain⟨x,hx,rfl⟩:=Option.map_eq_some_iff.1 h
  obtain⟨y,hy,hp⟩:=Option.bind_eq_some_iff.1 hx
  have h1:=putAt_len (hv.get hy) hp
  have h2:=setV_len (u:=x) hv hy
  omega
theorem dropV_len {v r:JV} {ts:List (List UInt8)} (hv:GdT v) (h:dropV v ts=some r) : (ct r).length≤(ct v).length:=by
 unfold dropV at h
 split at h
 ·cases h
 ·unfold chgV at h
  obtain⟨x,hx,rfl⟩:=Option.map_eq_some_iff.1 h
  obtain⟨y,hy,hp⟩:=Option.bind_eq_some_iff.1 hx
  unfold takeAt at hp
  obtain⟨c,hc,rfl⟩:=Option.map_eq_some_iff.1 hp
  have h1:=dropAt_len hc
  have h2:=setV_len (u:=dropAt y (lastT ts)) hv hy
  omega
theorem lastT_le {ts:List (List UInt8)} {n:Nat} (h:∀ x∈ts,x.length≤n) : (lastT ts).length≤n:=by
 unfold lastT
 cases hl:ts.getLast? with
 | none=>simp
 | some x=>exact h x (List.mem_of_getLast? hl)
theorem doV_len {v r:JV} {o:XOp} (hv:GdT v) (h:doV v o = .inr r) (hp:∀ x∈o.path,x.length≤1048576) : (ct r).length≤(ct v).length+max (ct v).length (ct o.val).length+6*1048576+4:=by
 have hlast:=lastT_le hp
 unfold doV at h
 split at h
 ·have:=putV_len hv (optC_in h)
  omega
 ·split at h
  ·have:=dropV_len hv (optC_in h)
   omega
  ·split at h
   ·have h1:=optC_in h
    unfold chgV at h1
    obtain⟨x,hx,rfl⟩:=Option.map_eq_some_iff.1 h1
    obtain⟨y,hy,hp⟩:=Option.bind_eq_some_iff.1 hx
    injection hp with hp
    subst hp
    have h2:=setV_len (u:=o.val) hv hy
    omega
   ·split at h
    ·split at h
     ·cases h
     ·rename_i m hm
      have hml:=getV_le hv hm
      split at h
      ·injection h with h; subst h; omega
      ·split at h
       ·cases h
       ·split at h
        ·cases h
        ·rename_i x hx
         have h1:=putV_len (dropV_good hv hx) (optC_in h)
         have h2:=dropV_len hv hx
         omega
    ·split at h
     ·split at h
      ·cases h
      ·rename_i m hm
       have hml:=getV_le hv hm
       have h1:=putV_len hv (optC_in h)
       omega
     ·split at h
      ·cases h
      ·split at h
       ·injection h with h; subst h; omega
       ·cases h
theorem cnt_ctW:∀ (n:Nat) (v:JV),depV v≤n→okV v→cntV v≤(ct v).length
 | 0,v,h,_=>by have:=(dep_cnt v).2; omega
 | n+1,v,h,hok=>by
  cases v with
  | arr l=>
   rw[okV,okL_iff] at hok
   have h1:=kids_cnt (.arr l)
   have h2:((kidsV (.arr l)).map fun q=>cntV q.2).sum=(l.toL.map cntV).sum:=by
    show ((idxJ 0 l.toL).map fun q=>cntV q.2).sum=_
    rw[show (fun q:List UInt8×JV=>cntV q.2)=cntV∘(·.2) from rfl,← List.map_map,idxJ_snd]
   have h3:(l.toL.map cntV).sum≤(l.toL.map fun v=>(ct v).length).sum:=sum_leW _ _ _ fun u hu=>cnt_ctW n u (by
    have:=dlK_at l.toL u hu
    rw[depV,depL_dl] at h
    omega) (hok u hu)
   rw[ctArr_lenW]
   unfold hold
   omega
  | obj m=>
   rw[okV,okM_iff] at hok
   have h1:=kids_cnt (.obj m)
   have h2:((kidsV (.obj m)).map fun q=>cntV q.2).sum=(m.toL.map fun q=>cntV q.2).sum:=((isortJ_perm m.toL).map _).sum_nat
   have h3:(m.toL.map fun q=>cntV q.2).sum≤(m.toL.map memN).sum:=sum_leW _ _ _ fun q hq=>by
    have:=cnt_ctW n q.2 (by
     have:=dlK_at (m.toL.map (·.2)) q.2 (List.mem_map.2 ⟨q,hq,rfl⟩)
     rw[depV,depM_dl] at h
     omega) (hok q hq).2
    unfold memN
    omega
   rw[ctObj_len]
   unfold hold
   omega
  | _=>
   have:=ct_posW hok
   rw[strOf_size] at this
   simp only[cntV]
   omega
def runTo (v:JV) (xs:List XOp) (k:Nat) (u:JV) : Prop:=runV v xs 0=runV u (xs.drop k) k∧GdV u
theorem runTo_next {v u r:JV} {xs:List XOp} {k:Nat} (h:runTo v xs k u) (hk:k < xs.length) (hd:doV u xs[k] = .inr r) (hr:GdT r) (hl:limV r=true) : runTo v xs (k+1) r:=by
 refine⟨?_,hr.lim hl⟩
 rw[h.1,List.drop_eq_getElem_cons hk,runV,hd]
 simp only
 rw[if_pos hl]
theorem runTo_code {v u:JV} {xs:List XOp} {k c:Nat} (h:runTo v xs k u) (hk:k < xs.length) (hd:doV u xs[k] = .inl c) : runV v xs 0 = .inl (c,k):=by
 rw[h.1,List.drop_eq_getElem_cons hk,runV,hd]
theorem runTo_big {v u r:JV} {xs:List XOp} {k:Nat} (h:runTo v xs k u) (hk:k < xs.length) (hd:doV u xs[k] = .inr r) (hl:limV r=false) : runV v xs 0 = .inl (7,k):=by
 rw[h.1,List.drop_eq_getElem_cons hk,runV,hd]
 simp only
 rw[hl]
 rfl
theorem runTo_end {v u:JV} {xs:List XOp} {k:Nat} (h:runTo v xs k u) (hk:¬ k < xs.length) : runV v xs 0 = .inr u:=by
 rw[h.1,List.drop_of_length_le (by omega),runV]
theorem doV_code {v:JV} {o:XOp} {c:Nat} (h:doV v o = .inl c) : c≠0:=by
 have hopt:∀ {x:Option JV},optC 3 x = .inl c→c≠0:=fun {x} h=>by
  cases x with
  | none=>injection h with h; omega
  | some y=>cases h
 unfold doV at h
 repeat' split at h
 all_goals first | exact hopt h | (injection h with h; omega) | cases h
theorem gdT_nul:GdT .nul:=⟨by rw[rdV]; trivial,rfl,rfl,by rw[okV]; trivial⟩
theorem valT_good (m:POp) : GdT (valT m)∧(ct (valT m)).length≤20000:=by
 unfold valT
 cases h:readR m.val with
 | inl c=>exact⟨gdT_nul,by show (ct .nul).length≤20000; decide⟩
 | inr u=>have:=GdV.of h; exact⟨this.t,this.len⟩
theorem limV_within {r:JV} (hl:(ct r).length≤20000) : limV r=decide (depV r≤100∧cntV r≤3000):=by
 rw[Bool.eq_iff_iff,limV_iff,decide_eq_true_iff]
 constructor
 ·rintro⟨a,b,_⟩; exact⟨a,b⟩
 ·rintro⟨a,b⟩; exact⟨a,b,hl⟩
theorem limV_long {r:JV} (hl:¬ (ct r).length≤20000) : limV r=false:=by
 cases h:limV r with
 | false=>rfl
 | true=>exact absurd ((limV_iff r).1 h).2.2 hl
theorem specApply_walk (s:ByteArray) (val:Value) (ms:List POp) (bl:List Nat) (w:World) (hrow:ORow opE w val ms bl) (hin:OpsIn ms) (hs:s.size≤1048576) :
  Calls Tryz.prog 17 #[.string s,val] w fun e w'=>e = .returned (.tuple #[.string (apR s ms).1,.int .i64 (apR s ms).2.1,.int .i64 (apR s ms).2.2])∧Below w.heap.size w w':=by
 have HCN:=hide (specCanon_walk s w hs)
 obtain⟨xa,xc,rfl,h1,hxa⟩:=hrow.form
 cases hr:readR s with
 | inl c=>
  have hc:=read_code hr
  have HR:Hid (apR s ms=(⟨#[]⟩,1,0)):=by show _=_; unfold apR; rw[hr]
  have e:canonV s = .tuple #[.string ⟨#[]⟩,.int .i64 (c:Int)]:=by unfold canonV; rw[hr]
  rw[e] at HCN
  have t2:((c:Int) != 0)=true:=by simp; omega
  clear hr e hc hrow hin hs h1 hxa
  go_enter Tryz.func17,Tryz.ntmps17
  go_wp2_with fail
  refine (uh HCN).mono ?_
  rintro e w1 ⟨rfl,b1⟩
  have HB1:=hide b1
  clear HCN b1
  go_wp2
  go_ret3
  exact⟨by rw[uh HR]; rfl,uh HB1⟩
 | inr v=>
  have hg:=GdV.of hr
  have e:canonV s = .tuple #[.string (strOf (ct v)),.int .i64 0]:=by unfold canonV; rw[hr]
  rw[e] at HCN
  have HFB:Hid (∀ wx,Below w.heap.size w wx→Calls Tryz.prog 47 #[.slice xa ms.length xc] wx fun e w'=>e = .returned (.int .i64 (badI ms))∧Below wx.heap.size wx w'):=fun wx hx=>firstBad_walk _ ms bl wx (hrow.below hx) hin
  by_cases hb:0≤badI ms
  ·have HR:Hid (apR s ms=(⟨#[]⟩,2,badI ms)):=by show _=_; unfold apR; rw[hr]; simp only; rw[if_pos hb]
   clear hr e hg hrow hin hs h1 hxa
   generalize badI ms=z at *
   generalize strOf (ct v)=sv at *
   go_enter Tryz.func17,Tryz.ntmps17
   go_wp2_with fail
   refine (uh HCN).mono ?_
   rintro e w1 ⟨rfl,b1⟩
   have HF1:=hide (uh HFB w1 b1)
   have HB1:=hide b1
   clear HCN b1 HFB
   go_wp2_with fail
   refine (uh HF1).mono ?_
   rintro e w2 ⟨rfl,b2⟩
   have HB2:=hide (below_next (uh HB1) b2)
   clear HF1 b2
   go_wp2
   go_ret3
   exact⟨by rw[uh HR]; rfl,uh HB2⟩
  ·obtain⟨hl100,hall⟩:=badI_all hb
   have HR1:Hid (∀ c k,runV v (ms.map xOp) 0 = .inl (c,k)→apR s ms=(⟨#[]⟩,(c:Int),(k:Int))):=fun c k h=>by unfold apR; rw[hr]; simp only; rw[if_neg hb,h]
   have HR2:Hid (∀ r,runV v (ms.map xOp) 0 = .inr r→apR s ms=(strOf (ct r),0,0)):=fun r h=>by unfold apR; rw[hr]; simp only; rw[if_neg hb,h]
   have HDO:Hid (∀ (k:Nat) (hk:k < ms.length) (u:JV) (wx:World),GdV u→Calls Tryz.prog 48 #[.string (strOf (ct u)),.agg (opCs ms[k])] wx fun e w'=>e = .returned (doR (doV u (xOp ms[k])))∧Below wx.heap.size wx w'):=fun k hk u wx hu=>by
    obtain⟨a,b,c⟩:=opOk_val (hall _ (List.getElem_mem hk))
    obtain⟨i1,i2,i3⟩:=hin _ (List.getElem_mem hk)
    exact do_walk u (valT ms[k]) ms[k] wx hu.t (by have:=hu.len; omega) i1 i2 a b (fun hv=>by
     obtain⟨_,q2,q3⟩:=c hv
     exact⟨q2,q3.t,by have:=q3.len; omega⟩)
   have HGD:Hid (∀ (k:Nat) (hk:k < ms.length) (u r:JV),GdV u→doV u (xOp ms[k]) = .inr r→GdT r∧(ct r).length≤20000000):=fun k hk u r hu hd=>by
    obtain⟨hvg,hvl⟩:=valT_good ms[k]
    obtain⟨i1,i2,i3⟩:=hin _ (List.getElem_mem hk)
    have h1:=doV_good (o:=xOp ms[k]) hu.t hvg hd
    have h2:=doV_len (o:=xOp ms[k]) hu.t hd (toks_bnd ms[k].path i1).2
    have h3:=hu.len
    have h4:(ct (xOp ms[k]).val).length≤20000:=hvl
    exact⟨h1,by omega⟩
   have HRW:=hide hrow
   have hxl:(ms.map xOp).length=ms.length:=List.length_map _
   have HXA:=hide hxa
   have HT0:Hid (runTo v (ms.map xOp) 0 v):=⟨rfl,hg⟩
   have hbI:¬ (0:Int)≤badI ms:=hb
   clear hr e hg hrow hin hs h1 hxa hall hb
   generalize badI ms=z at *
   go_enter Tryz.func17,Tryz.ntmps17
   go_wp2_with fail
   refine (uh HCN).mono ?_
   rintro e w1 ⟨rfl,b1⟩
   have HF1:=hide (uh HFB w1 b1)
   have HB1:=hide b1
   clear HCN b1 HFB
   go_wp2_with fail
   refine (uh HF1).mono ?_
   rintro e w2 ⟨rfl,b2⟩
   have HB2:=hide (below_next (uh HB1) b2)
   clear HF1 b2 HB1
   go_wp2
   go_loopw [7,10] (fun tv i wr=>∃ (k:Nat) (u:JV),k≤ms.length∧i = .int .i64 (k:Int)∧tv = .string (strOf (ct u))∧runTo v (ms.map xOp) k u∧Below w.heap.size w wr) (fun _ i _=>ms.length - (intOf i).toNat)
   case atStart=>exact⟨0,v,Nat.zero_le _,rfl,rfl,uh HT0,uh HB2⟩
   case round=>
    obtain⟨k,u,hk,rfl,rfl,hrun,hb⟩:=hrel
    have HRUN:=hide hrun
    have HBR:=hide hb
    clear HT0 HB2
    by_cases hlt:k < ms.length
    ·have hltI:(k:Int) < (ms.length:Int):=by omega
     obtain⟨g,rfl⟩:=uh HXA (by omega)
     obtain⟨vs,ib,hE,hcc,_⟩:=((uh HRW).below hb).at (List.getElem?_eq_getElem hlt)
     obtain⟨rfl,_⟩:=hE
     have c0:wr.cell? ⟨g,k*4,none⟩=some (.int .i64 ms[k].kind):=(hcc 0 _ rfl).1
     have c1:wr.cell? ⟨g,k*4+1,none⟩=some (.string ms[k].path):=(hcc 1 _ rfl).1
     have c2:wr.cell? ⟨g,k*4+2,none⟩=some (.string ms[k].src):=(hcc 2 _ rfl).1
     have c3:wr.cell? ⟨g,k*4+3,none⟩=some (.string ms[k].val):=(hcc 3 _ rfl).1
     have HD:=hide (uh HDO k hlt u wr hrun.2)
     have hxk:(ms.map xOp)[k]'(by rw[hxl]; exact hlt)=xOp ms[k]:=by simp
     have hkx:k < (ms.map xOp).length:=by omega
     cases hdo:doV u (xOp ms[k]) with
     | inl c=>
      rw[hdo] at HD
      rw[show doR (.inl c) = .tuple #[.string ⟨#[]⟩,.int .i64 (c:Int)] from rfl] at HD
      have hc0:=doV_code hdo
      have HRES:=hide (uh HR1 c k (runTo_code hrun hkx (by rw[hxk]; exact hdo)))
      have t2:((c:Int) != 0)=true:=by simp; omega
      clear hcc hrun hb hdo HDO HGD HR1 HR2 hxk hkx hxl hc0
      go_wp2_with fail
      refine (uh HD).mono ?_
      rintro e w3 ⟨rfl,b3⟩
      have HB3:=hide (below_next (uh HBR) b3)
      clear HD b3 c0 c1 c2 c3
      go_wp2
      go_ret3
      exact⟨by rw[uh HRES]; rfl,uh HB3⟩
     | inr r=>
      rw[hdo] at HD
      rw[show doR (.inr r) = .tuple #[.string (strOf (ct r)),.int .i64 0] from rfl] at HD
      obtain⟨hrg,hrl⟩:=uh HGD k hlt u r hrun.2 hdo
      by_cases hlen:(ct r).length≤20000
      ·have tl:¬ (20000:Int) < ((strOf (ct r)).size:Int):=by rw[strOf_size]; omega
       have hcn:=cnt_ctW (depV r) r (Nat.le_refl _) hrg.ok
       have HW:Hid (∀ wx,Calls Tryz.prog 49 #[.string (strOf (ct r))] wx fun e w'=>e = .returned (.bool (limV r))∧Below wx.heap.size wx w'):=fun wx=>by
        have:=within_ct r hrg.ok wx (by omega) (by omega)
        rw[limV_within hlen]
        exact this
       cases hlim:limV r with
       | true=>
        rw[hlim] at HW
        have HNX:=hide (runTo_next hrun hkx (by rw[hxk]; exact hdo) hrg hlim)
        clear hcc hrun hb hdo HDO HGD HR1 HR2 hxk hkx hxl hrg hrl hlen hcn hlim
        generalize hsr:strOf (ct r)=sr at *
        have HSR:=hide hsr
        clear hsr
        go_wp2_with fail
        refine (uh HD).mono ?_
        rintro e w3 ⟨rfl,b3⟩
        have HB3:=hide (below_next (uh HBR) b3)
        have HW3:=hide (uh HW w3)
        clear HD HW b3 c0 c1 c2 c3
        go_wp2_with fail
        refine (uh HW3).mono ?_
        rintro e w4 ⟨rfl,b4⟩
        have HB4:=hide (below_next (uh HB3) b4)
        clear HW3 b4
        go_wp2
        go_roundw
        case rel=>exact⟨k+1,r,by omega,by go_num,by rw[uh HSR],uh HNX,uh HB4⟩
        case measure=>simp[intOf]; omega
       | false=>
        rw[hlim] at HW
        have HRES:=hide (uh HR1 7 k (runTo_big hrun hkx (by rw[hxk]; exact hdo) hlim))
        clear hcc hrun hb hdo HDO HGD HR1 HR2 hxk hkx hxl hrg hrl hlen hcn hlim
        generalize strOf (ct r)=sr at *
        go_wp2_with fail
        refine (uh HD).mono ?_
        rintro e w3 ⟨rfl,b3⟩
        have HB3:=hide (below_next (uh HBR) b3)
        have HW3:=hide (uh HW w3)
        clear HD HW b3 c0 c1 c2 c3
        go_wp2_with fail
        refine (uh HW3).mono ?_
        rintro e w4 ⟨rfl,b4⟩
        have HB4:=hide (below_next (uh HB3) b4)
        clear HW3 b4
        go_wp2
        go_ret3
        exact⟨by rw[uh HRES]; rfl,uh HB4⟩
      ·have tl:(20000:Int) < ((strOf (ct r)).size:Int):=by rw[strOf_size]; omega
       have HRES:=hide (uh HR1 7 k (runTo_big hrun hkx (by rw[hxk]; exact hdo) (limV_long hlen)))
       clear hcc hrun hb hdo HDO HGD HR1 HR2 hxk hkx hxl hrg hrl hlen
       generalize strOf (ct r)=sr at *
       go_wp2_with fail
       refine (uh HD).mono ?_
       rintro e w3 ⟨rfl,b3⟩
       have HB3:=hide (below_next (uh HBR) b3)
       clear HD b3 c0 c1 c2 c3
       go_wp2
       go_ret3
       exact⟨by rw[uh HRES]; rfl,uh HB3⟩
    ·have hltI:¬ (k:Int) < (ms.length:Int):=by omega
     have HRES:=hide (uh HR2 u (runTo_end hrun (by omega)))
     clear hrun hb HDO HGD HR1 HR2 hxl
     go_wp2
     go_ret3
     exact⟨by rw[uh HRES]; rfl,uh HBR⟩
theorem perm_of_sub {α:Type} [DecidableEq α] : ∀ (a b:List α),a.Nodup→(∀ x∈a,x∈b)→b.length≤a.length→a.Perm b
 | [],b,_,_,h=>by
  have:b=[]:=List.length_eq_zero_iff.1 (by simpa using h)
  rw[this]
 | x :: r,b,hn,hs,h=>by
  have hx:=hs x List.mem_cons_self
  rw[List.nodup_cons] at hn
  have hl:(b.erase x).length+1=b.length:=by
   rw[List.length_erase_of_mem hx]
   have:=List.length_pos_of_mem hx
   omega
  have hp:=perm_of_sub r (b.erase x) hn.2 (fun y hy=>(List.mem_erase_of_ne (by intro e; subst e; exact hn.1 hy)).2 (hs y (List.mem_cons_of_mem _ hy))) (by rw[List.length_cons] at h; omega)
  exact (hp.cons x).trans (List.perm_cons_erase hx).symm
theorem nodup_keys {α β:Type} {l:List (α×β)} (h:(l.map (·.1)).Nodup) : l.Nodup:=by
 unfold List.Nodup at h ⊢
 rw[List.pairwise_map] at h
 exact h.imp fun hab e=>hab (by rw[e])
theorem nodup_mem_eq {α β:Type} : ∀ {l:List (α×β)} {p q:α×β},(l.map (·.1)).Nodup→p∈l→q∈l→p.1=q.1→p=q
 | [],_,_,_,h,_,_=>by cases h
 | x :: r,p,q,hn,hp,hq,e=>by
  rw[List.map_cons,List.nodup_cons] at hn
  rcases List.mem_cons.1 hp with e1 | hp
  ·rcases List.mem_cons.1 hq with e2 | hq
   ·rw[e1,e2]
   ·exact absurd (List.mem_map.2 ⟨q,hq,by rw[← e,e1]⟩) hn.1
  ·rcases List.mem_cons.1 hq with e2 | hq
   ·exact absurd (List.mem_map.2 ⟨p,hp,by rw[e,e2]⟩) hn.1
   ·exact nodup_mem_eq hn.2 hp hq e
theorem arr_iff {l m:JL} (hl:GdT (.arr l)) (hm:GdT (.arr m)) : ct (.arr l)=ct (.arr m)↔l.toL.map ct=m.toL.map ct:=by
 rw[← ctL_map,← ctL_map]
 constructor
 ·intro h
  have h1:=hl.ok
  have h2:=hm.ok
  rw[okV] at h1 h2
  exact ct_arr h1 h2 h
 ·intro h; rw[ct,ct,h]
theorem obj_iff {k m:JM} (hk:GdT (.obj k)) (hm:GdT (.obj m)) : ct (.obj k)=ct (.obj m)↔k.toL.length=m.toL.length∧∀ q∈k.toL,∃ u,(q.1,u)∈m.toL∧ct q.2=ct u:=by
 have gk:=(gdT_obj k).1 hk
 constructor
 ·intro h
  have h1:=hk.ok
  have h2:=hm.ok
  rw[okV] at h1 h2
  have hp:(ctM k).Perm (ctM m):=(isort_perm _).symm.trans ((ct_obj h1 h2 h) ▸ isort_perm _)
  rw[ctM_map,ctM_map] at hp
  refine⟨by simpa using hp.length_eq,fun q hq=>?_⟩
  obtain⟨q',hq',e⟩:=List.mem_map.1 (hp.subset (List.mem_map.2 ⟨q,hq,rfl⟩))
  injection e with e1 e2
  exact⟨q'.2,by rw[← e1]; exact hq',e2.symm⟩
 ·rintro⟨hl,hs⟩
  have hn:((ctM k).map (·.1)).Nodup:=by rw[ctM_map,List.map_map]; exact gk.1
  have hp:(ctM k).Perm (ctM m):=perm_of_sub _ _ (nodup_keys hn) (fun x hx=>by
   rw[ctM_map] at hx
   obtain⟨q,hq,rfl⟩:=List.mem_map.1 hx
   obtain⟨u,hu,e⟩:=hs q hq
   rw[ctM_map]
   exact List.mem_map.2 ⟨(q.1,u),hu,by rw[e]⟩) (by rw[ctM_map,ctM_map,List.length_map,List.length_map]; omega)
  rw[ct,ct,isort_same hp hn]
theorem arr_len {l:JL} {u:JV} (h:u∈l.toL) : (ct u).length≤(ct (.arr l)).length:=by
 have hc:ct (.arr l)=mkA (ctL l):=by rw[ct]
 rw[hc,ctL_map]
 have hj:(ct u).length+1≤((l.toL.map ct).map fun t=>t.length+1).sum:=by
  have:∀ (L:List JV),u∈L→(ct u).length+1≤((L.map ct).map fun t=>t.length+1).sum:=by
   intro L
   induction L with
   | nil=>intro h; cases h
   | cons x r ih=>
    intro h
    rw[List.map_cons,List.map_cons,List.sum_cons]
    rcases List.mem_cons.1 h with rfl | h
    ·omega
    ·have:=ih h; omega
  exact this _ h
 have hne:l.toL.map ct≠[]:=by intro e; rw[List.map_eq_nil_iff] at e; rw[e] at h; cases h
 have:=joinC_sh _ hne
 show _≤(91 :: (joinC (l.toL.map ct)++[93])).length
 simp only[List.length_cons,List.length_append,List.length_nil]
 omega
end Go.Proofs.YtocnekbedcnmgaaGreatDoor
