import Derived.Test.YtkjcgkfejdogbaaGreatDoorBz23
set_option maxRecDepth 100000
set_option maxHeartbeats 8000000
namespace Go.Proofs.YtkjcgkfejdogbaaGreatDoor
open Go.RowKit
theorem dr_ext {s:ByteArray} {k:Nat} : (s.extract k s.size).data.toList=dr s k:=by
 rw[Lib.extract_data]; unfold dr; exact List.take_of_length_le (by rw[List.length_drop,data_len]; exact Nat.le_refl _)
theorem prim_not {n m:Nat} (IH:PrimOk m (sPr n)) (s:ByteArray) (v:Value) (ops:List PFOp) (bl:List Nat) (B:Nat) (w:World) (hm:s.size < m+1) (hs:s.size≤1048576) (h:ORow fopE w v ops bl) (hF:Fsh B bl) (hB:B≤w.heap.size) (hN:ops.length+3*s.size+3≤10000000)
  (h0:0 < s.size) (h33:s[0]=33) : Calls Tryz.prog 88 #[.string s,v] w (CRet w B ops bl (ops.length+3*s.size+3) (sPr (n+1) s.data.toList)):=by
 have HC:=hide (IH (s.extract 1 s.size) v ops bl B w (by simp; omega) (by simp; omega) h hF hB (by simp; omega))
 have hsz:(s.extract 1 s.size).size=s.size - 1:=by simp
 rw[dr_ext,hsz] at HC
 have HR:Hid (sPr (n+1) s.data.toList=(sPr n (dr s 1)).map (fun p=>(p.1++[opK 12],p.2+1))):=by
  show _=_
  have e:=dr_at h0
  rw[dr_zero] at e
  rw[e,sPr_con,if_pos h33]
 have HL:=hide (sPr_len n (dr s 1))
 have HH:=hide h
 have HF:=hide hF
 have b33:(((s[0].toNat:Nat) : Int) == 33)=true:=eq_t h33
 have h0I:(0:Int) < (s.size:Int):=by omega
 have h1I:(1:Int)≤(s.size:Int):=by omega
 obtain⟨va,vc,rfl,-,-⟩:=h.form
 clear h hF h33 hsz IH
 go_enter Tryz.func88,Tryz.ntmps88
 go_wp2_with fail
 refine (uh HC).mono ?_
 rintro e w1 ⟨b1,s1,v1,ok,d,rfl,hno,hyes⟩
 have hz1:=b1.size
 clear HC
 cases hp:sPr n (dr s 1) with
 | none=>
  obtain⟨rfl,hany⟩:=hno hp
  have HR2:Hid (sPr (n+1) s.data.toList=none):=by show _=_; rw[uh HR,hp]; rfl
  obtain⟨ya,yl,yc,rfl⟩:=hany.form
  have hal:=al_b w1 (.cells #[.int .i64 12,.int .i64 0,.string ⟨#[]⟩,.bool false,.slice none 0 0] 37)
  have HAN:=hide (hany.shp (Shp.of_below hal))
  have HB1:=hide (b1.trans (hal.mono (by omega)))
  have HS1:=hide (s1.trans (Shp.of_below hal))
  have hd1:0≤s.size - 1:=Nat.zero_le _
  clear hno hyes hp hany b1 s1 hal HL HR
  go_wp2_with (at_builtin; refine wpl_any ekFOp rfl (.tmp 38) (.tmp 40) rfl (N:=ops.length+3*(s.size - 1)+3) rfl (uh HAN) (vs:=[.int .i64 12,.int .i64 0,.string ⟨#[]⟩,.bool false,.slice none 0 0]) rfl rfl (by exact lit_cells w1 [_,_,_,_,_] _) (fop_one _ _ _ _ _ _ _) (by simp; omega) (by omega) ?_)
  intro v2 w2 a2 g2 s2
  have HB2:=hide ((uh HB1).grown g2 (by simp; omega) (uh HAN).own)
  have HS2:=hide ((uh HS1).trans s2)
  have HA2:=hide a2
  obtain⟨za,zl,zc,rfl⟩:=a2.form
  clear a2 g2 s2 HAN HB1 HS1
  go_wp2
  go_ret3
  exact⟨uh HB2,uh HS2,_,_,_,rfl,fun _=>⟨rfl,(uh HA2).mono (by omega)⟩,fun x hx=>by rw[uh HR2] at hx; cases hx⟩
 | some x=>
  obtain⟨rfl,rfl,fr1,bl1,row1,fsh1,new1⟩:=hyes x hp
  have hxl:=uh HL x hp
  rw[dr_len] at hxl
  have HR2:Hid (sPr (n+1) s.data.toList=some (x.1++[opK 12],x.2+1)):=by show _=_; rw[uh HR,hp]; rfl
  have hlx:(ops++x.1).length+1≤40000000:=by rw[List.length_append]; omega
  obtain⟨L,hL⟩ : ∃ L,ops++x.1=L:=⟨_,rfl⟩
  rw[hL] at row1 hlx
  have HL2:=hide hL
  obtain⟨ya,yc,rfl,-,-⟩:=row1.form
  have hal:=al_b w1 (.cells #[.int .i64 12,.int .i64 0,.string ⟨#[]⟩,.bool false,.slice none 0 0] 37)
  have ROW:=hide (row1.below hal)
  have FS:=hide fsh1
  have NW:=hide new1
  have HFR:=hide (fr1.next hal)
  have HS1:=hide (s1.trans (Shp.of_below hal))
  have hxb:x.2≤1048576:=by omega
  clear hno hyes hp b1 s1 hal HL HR row1 fsh1 new1 fr1 hL
  go_wp2_with (at_builtin; refine wpl_app1 ekFOp rfl (.tmp 38) (.tmp 40) rfl rfl (uh ROW) (uh FS) (vs:=[.int .i64 12,.int .i64 0,.string ⟨#[]⟩,.bool false,.slice none 0 0]) (y:=opK 12) (fopE_lit _ _ _ _) (Fsh.nil _) (by simp) rfl (by exact lit_cells w1 [_,_,_,_,_] _) (fop_one _ _ _ _ _ _ _) (by simp; omega) hlx ?_)
  intro v2 w2 bl2 hA
  have HA:=hide hA
  obtain⟨za,zc,rfl,-,-⟩:=hA.row.form
  clear hA
  go_wp2
  go_ret3
  have hA:=uh HA
  have hfr:Fr bl w w2:=(uh HFR).trans' (hA.fr (uh ROW)) fun b hb=>uh NW b hb
  refine⟨hfr.below (uh HF).2 hB,(uh HS1).trans hA.shp,_,_,_,rfl,fun hx=>(by rw[uh HR2] at hx; cases hx),fun y hy=>?_⟩
  rw[uh HR2] at hy
  injection hy with hy
  subst hy
  refine⟨rfl,by go_num,hfr,bl2,?_,hA.fsh,fun b hb=>?_⟩
  ·show ORow fopE w2 _ (ops++(x.1++[opK 12])) bl2
   rw[← List.append_assoc,uh HL2]
   exact hA.row
  ·rcases hA.sub b hb with h1 | h1 | h1
   ·exact uh NW b h1
   ·simp at h1
   ·right; rw[h1]; simp; omega
def parB (s:ByteArray) : Bool:=decide (s.data.toList.head?=some 40∧clo 0 0 s.data.toList=some s.data.toList.length∧(dr s 1).getLast?=some 41)
theorem getLast_dr {s:ByteArray} (h:1 < s.size) : (dr s 1).getLast?=some s[s.size - 1]:=by
 have e:=dr_at (s:=s) (i:=0) (by omega)
 rw[dr_zero] at e
 have h1:=last_at (s:=s) (by omega)
 rw[e] at h1
 have:dr s 1≠[]:=dr_ne h
 cases hd:dr s 1 with
 | nil=>exact absurd hd this
 | cons a b=>rw[hd,List.getLast?_cons_cons] at h1; exact h1
theorem sPr_par {n:Nat} {s:ByteArray} (h0:0 < s.size) (h33:¬ s[0]=33) : sPr (n+1) s.data.toList=if parB s=true then (sCdOf (sPr n) (dr s 1).dropLast).map (fun p=>(p.1,p.2+1)) else (sTest s.data.toList).map fun o=>(o,0):=by
 have e:=dr_at h0
 rw[dr_zero] at e
 have e2:s.data.toList.head?=some s[0]:=by rw[e]; rfl
 unfold parB
 rw[e2]
 simp only[decide_eq_true_eq,Option.some.injEq]
 generalize s.data.toList=L at *
 rw[e,sPr_con,if_neg h33]
theorem sPr_leaf0 {n:Nat} : sPr (n+1) []=(sTest []).map fun o=>(o,0):=rfl
theorem prim_else {n m:Nat} (IH:CondOk m 0 (sCdOf (sPr n))) (s:ByteArray) (v:Value) (ops:List PFOp) (bl:List Nat) (B:Nat) (w:World) (hm:s.size < m+1) (hs:s.size≤1048576) (h:ORow fopE w v ops bl) (hF:Fsh B bl) (hB:B≤w.heap.size) (hN:ops.length+3*s.size+3≤10000000)
  (hno:∀ h0:0 < s.size,¬ s[0]=33) : Calls Tryz.prog 88 #[.string s,v] w (CRet w B ops bl (ops.length+3*s.size+3) (sPr (n+1) s.data.toList)):=by
 have HCL:=hide (close_walk s w hs)
 have HNO:=hide hno
 have HH:=hide h
 have HF:=hide hF
 obtain⟨va,vc,rfl,-,-⟩:=h.form
 clear h hF hno
 go_enter Tryz.func88,Tryz.ntmps88
 go_upto_region 1 with fail
 go_cut [29] from 22 to 29 (fun x wx=>x = .bool false∧w=wx)
 case first=>
  by_cases h0:0 < s.size
  ·have b33:(((s[0].toNat:Nat) : Int) == 33)=false:=eq_f (d:=33) (uh HNO h0)
   have h0I:(0:Int) < (s.size:Int):=by omega
   go_wp2
   go_meet
   case rel=>exact⟨rfl,rfl⟩
  ·have h0I:¬ (0:Int) < (s.size:Int):=by omega
   go_wp2
   go_meet
   case rel=>exact⟨rfl,rfl⟩
 obtain⟨rfl,rfl⟩:=hcut
 go_upto_region 4 with fail
 go_cut [67] from 22 to 67 (fun x wx=>x = .bool (parB s && decide (0 < s.size))∧w=wx)
 case first=>
  by_cases h1:1 < s.size
  ·have h1I:(1:Int) < (s.size:Int):=by omega
   have e:=dr_at (s:=s) (i:=0) (by omega)
   rw[dr_zero] at e
   have hh:s.data.toList.head?=some s[0]:=by rw[e]; rfl
   have hd:decide (0 < s.size)=true:=by simp; omega
   clear e
   by_cases h40:s[0]=40
   ·have b40:(((s[0].toNat:Nat) : Int) == 40)=true:=eq_t h40
    cases hc:clo 0 0 s.data.toList with
    | none=>
     have HV:Hid ((parB s && decide (0 < s.size))=false):=by show _=_; unfold parB; rw[hc]; simp
     have t1:((-1:Int) == (s.size:Int))=false:=by rw[beq_eq_false_iff_ne]; omega
     rw[hc] at HCL
     have e1:natO none = -1:=rfl
     rw[e1] at HCL
     clear hc h40 hh hd e1
     go_wp2_with fail
     refine (uh HCL).mono ?_
     rintro e w1 ⟨rfl,rfl⟩
     go_wp2
     go_meet
     case rel=>exact⟨by rw[uh HV],rfl⟩
    | some q=>
     rw[hc] at HCL
     have e1:natO (some q)=(q:Int):=rfl
     rw[e1] at HCL
     clear e1
     by_cases hq:q=s.size
     ·have t1:((q:Int) == (s.size:Int))=true:=by rw[beq_iff_eq]; omega
      have hl:=getLast_dr h1
      have hx:s.size - 1 < s.size:=by omega
      by_cases h41:s[s.size - 1]=41
      ·have b41:(((s[s.size - 1].toNat:Nat) : Int) == 41)=true:=eq_t h41
       have HV:Hid ((parB s && decide (0 < s.size))=true):=by show _=_; unfold parB; rw[hc,hh,hl,h40,h41,hq,data_len,hd]; simp
       clear hc h40 hh hd hl h41 hq
       go_wp2_with fail
       refine (uh HCL).mono ?_
       rintro e w1 ⟨rfl,rfl⟩
       go_wp2
       go_meet
       case rel=>exact⟨by rw[uh HV],rfl⟩
      ·have b41:(((s[s.size - 1].toNat:Nat) : Int) == 41)=false:=eq_f (d:=41) h41
       have HV:Hid ((parB s && decide (0 < s.size))=false):=by show _=_; unfold parB; rw[hl]; simp[h41]
       clear hc h40 hh hd hl h41 hq
       go_wp2_with fail
       refine (uh HCL).mono ?_
       rintro e w1 ⟨rfl,rfl⟩
       go_wp2
       go_meet
       case rel=>exact⟨by rw[uh HV],rfl⟩
     ·have t1:((q:Int) == (s.size:Int))=false:=by rw[beq_eq_false_iff_ne]; omega
      have HV:Hid ((parB s && decide (0 < s.size))=false):=by show _=_; unfold parB; rw[hc,data_len]; simp[hq]
      clear hc h40 hh hd hq
      go_wp2_with fail
      refine (uh HCL).mono ?_
      rintro e w1 ⟨rfl,rfl⟩
      go_wp2
      go_meet
      case rel=>exact⟨by rw[uh HV],rfl⟩
   ·have b40:(((s[0].toNat:Nat) : Int) == 40)=false:=eq_f (d:=40) h40
    have HV:Hid ((parB s && decide (0 < s.size))=false):=by show _=_; unfold parB; rw[hh]; simp[h40]
    clear h40 hh hd
    go_wp2
    go_meet
    case rel=>exact⟨by rw[uh HV],rfl⟩
  ·have h1I:¬ (1:Int) < (s.size:Int):=by omega
   have HV:Hid ((parB s && decide (0 < s.size))=false):=by
    show _=_
    have:dr s 1=[]:=dr_end (by omega)
    unfold parB; rw[this]; simp
   go_wp2
   go_meet
   case rel=>exact⟨by rw[uh HV],rfl⟩
 obtain⟨rfl,rfl⟩:=hcut
 clear HCL
 have HRR:Hid (sPr (n+1) s.data.toList=if (parB s && decide (0 < s.size))=true then (sCdOf (sPr n) (dr s 1).dropLast).map (fun p=>(p.1,p.2+1)) else (sTest s.data.toList).map fun o=>(o,0)):=by
  show _=_
  by_cases h0:0 < s.size
  ·rw[sPr_par h0 (uh HNO h0),decide_eq_true h0,Bool.and_true]
  ·rw[decide_eq_false h0,Bool.and_false,if_neg (by decide)]
   have:s.data.toList=[]:=List.eq_nil_of_length_eq_zero (by rw[data_len]; omega)
   rw[this]; exact sPr_leaf0
 have hpb:(parB s && decide (0 < s.size))=true→1 < s.size:=fun hq=>by
  apply Classical.byContradiction
  intro h1
  have:dr s 1=[]:=dr_end (by omega)
  unfold parB at hq; rw[this] at hq; simp at hq
 have HPB:=hide hpb
 clear HNO hpb
 cases hq:(parB s && decide (0 < s.size)) with
 | true=>
  have h1:=uh HPB hq
  have HR:Hid (sPr (n+1) s.data.toList=(sCdOf (sPr n) (dr s 1).dropLast).map (fun p=>(p.1,p.2+1))):=by show _=_; rw[uh HRR,if_pos hq]
  have HC:=hide (IH (s.extract 1 (s.size - 1)) _ ops bl B w (by simp; omega) (by simp; omega) (uh HH) (uh HF) hB (by simp; omega))
  have hsz:(s.extract 1 (s.size - 1)).size=s.size - 2:=by simp; omega
  have hdt:(s.extract 1 (s.size - 1)).data.toList=(dr s 1).dropLast:=by
   rw[Lib.extract_data,List.dropLast_eq_take,dr_len]; rfl
  rw[hdt,hsz] at HC
  have HL:=hide (sCd_len (sPr_len n) (dr s 1).dropLast)
  have h1I:(1:Int)≤(s.size:Int) - 1:=by omega
  clear hq HRR HPB hsz hdt IH
  go_wp2_with fail
  refine (uh HC).mono ?_
  rintro e w1 ⟨b1,s1,v1,ok,d,rfl,hno,hyes⟩
  have HB1:=hide b1
  have HS1:=hide s1
  clear HC b1 s1
  cases hp:sCdOf (sPr n) (dr s 1).dropLast with
  | none=>
   obtain⟨rfl,hany⟩:=hno hp
   have HR2:Hid (sPr (n+1) s.data.toList=none):=by show _=_; rw[uh HR,hp]; rfl
   have HA:=hide hany
   obtain⟨ya,yl,yc,rfl⟩:=hany.form
   clear hno hyes hp hany HL HR
   go_wp2
   go_ret3
   exact⟨uh HB1,uh HS1,_,_,_,rfl,fun _=>⟨rfl,(uh HA).mono (by omega)⟩,fun x hx=>by rw[uh HR2] at hx; cases hx⟩
  | some x=>
   obtain⟨rfl,rfl,hrest⟩:=hyes x hp
   have hxl:=(uh HL x hp).2
   rw[List.length_dropLast,dr_len] at hxl
   have HR2:Hid (sPr (n+1) s.data.toList=some (x.1,x.2+1)):=by show _=_; rw[uh HR,hp]; rfl
   have HRE:=hide hrest
   obtain⟨ya,yc,rfl,-,-⟩:=hrest.2.choose_spec.1.form
   rw[List.length_append] at HRE
   clear hno hyes hp hrest HL HR
   go_wp2
   go_ret3
   refine⟨uh HB1,uh HS1,_,_,_,rfl,fun hx=>(by rw[uh HR2] at hx; cases hx),fun y hy=>?_⟩
   rw[uh HR2] at hy
   injection hy with hy
   subst hy
   exact⟨rfl,by go_num,uh HRE⟩
 | false=>
  have HR:Hid (sPr (n+1) s.data.toList=(sTest s.data.toList).map fun o=>(o,0)):=by show _=_; rw[uh HRR,if_neg (by rw[hq]; decide)]
  have HCW:=hide (comp_walk s w hs)
  clear hq HRR HPB IH
  go_wp2_with fail
  refine (uh HCW).mono ?_
  rintro e w1 ⟨rfl,b1⟩
  have hz1:=b1.size
  have HB1:=hide b1
  clear HCW b1
  cases hc:fCmp s.data.toList with
  | none=>
   have e1:natO none = -1:=rfl
   rw[e1]
   have HT:Hid (sPr (n+1) s.data.toList=(sRef s.data.toList).map fun x=>([opR' 8 x],0)):=by
    show _=_
    rw[uh HR]
    unfold sTest
    rw[hc]
    show Option.map _ (Option.map _ _)=_
    rw[Option.map_map]; rfl
   have HRW:=hide (ref_walk s w1 hs)
   clear hc HR e1
   go_wp2_with fail
   refine (uh HRW).mono ?_
   rintro e w2 ⟨b2,o,q,bo,rfl,row,fsh,hx⟩
   obtain⟨qa,qc,rfl,-,-⟩:=row.form
   have hz2:=b2.size
   have hal:=al_b w2 (.cells #[.int .i64 o.k,.int .i64 o.n,.string o.s,.bool o.root,.slice qa o.steps.length qc] 37)
   have hz3:(w2.alloc (.cells #[.int .i64 o.k,.int .i64 o.n,.string o.s,.bool o.root,.slice qa o.steps.length qc] 37)).heap.size=w2.heap.size+1:=by simp
   have hal2:=al_b (w2.alloc (.cells #[.int .i64 o.k,.int .i64 o.n,.string o.s,.bool o.root,.slice qa o.steps.length qc] 37)) (.cells #[.int .i64 o.k,.int .i64 o.n,.string o.s,.bool o.root,.slice qa o.steps.length qc] 37)
   have hb4:=below_next hal hal2
   have hb5:=below_next (below_next (uh HB1) b2) hb4
   have HB5:=hide hb5
   have ROW:=hide ((uh HH).below hb5)
   have EL:=hide (show fopE.E ((w2.alloc (.cells #[.int .i64 o.k,.int .i64 o.n,.string o.s,.bool o.root,.slice qa o.steps.length qc] 37)).alloc (.cells #[.int .i64 o.k,.int .i64 o.n,.string o.s,.bool o.root,.slice qa o.steps.length qc] 37)) [.int .i64 o.k,.int .i64 o.n,.string o.s,.bool o.root,.slice qa o.steps.length qc] o bo from ⟨_,rfl,row.below hb4⟩)
   have FI:=hide (fsh.mono (show B≤w1.heap.size by omega))
   have AP:Hid (∀ b∈bo,b ∉ bl):=fun b hb hbl=>by have h1:=fsh.2 b hb; have h2:=(uh HH).lt b hbl; omega
   have FS2:=hide fsh
   have HX:=hide hx
   clear b2 row fsh hx hal hal2 hb4 hb5 HRW HB1
   go_wp2_with (at_builtin; refine wpl_app1 ekFOp rfl (.tmp 92) (.tmp 94) rfl rfl (uh ROW) (uh HF) (vs:=[.int .i64 o.k,.int .i64 o.n,.string o.s,.bool o.root,.slice qa o.steps.length qc]) (y:=o) (uh EL) (uh FI) (uh AP) rfl (by rw[← hz3]; exact lit_cells _ [_,_,_,_,_] _) (fop_one _ _ _ _ _ _ _) (by simp; omega) (by omega) ?_)
   intro v2 w3 bl2 hA
   have HA:=hide hA
   obtain⟨za,zc,rfl,-,-⟩:=hA.row.form
   clear hA
   go_wp2
   go_ret3
   have hA:=uh HA
   have hfr:Fr bl w w3:=(Fr.of_below (uh HB5)).trans (hA.fr (uh ROW))
   refine⟨hfr.below (uh HF).2 hB,(Shp.of_below (uh HB5)).trans hA.shp,_,_,_,rfl,fun hn=>?_,fun y hy=>?_⟩
   ·rw[uh HT] at hn
    cases hr:sRef s.data.toList with
    | none=>exact⟨rfl,(hA.row.any hA.fsh).mono (by rw[List.length_append,List.length_singleton]; omega)⟩
    | some z=>rw[hr] at hn; cases hn
   ·rw[uh HT] at hy
    cases hr:sRef s.data.toList with
    | none=>rw[hr] at hy; cases hy
    | some z=>
     rw[hr] at hy
     injection hy with hy
     subst hy
     have ho:o=opR' 8 z:=uh HX _ (by rw[hr]; rfl)
     refine⟨rfl,rfl,hfr,bl2,?_,hA.fsh,fun b hb=>?_⟩
     ·show ORow fopE w3 _ (ops++[opR' 8 z]) bl2
      rw[← ho]
      exact hA.row
     ·rcases hA.sub b hb with h1 | h1 | h1
      ·exact .inl h1
      ·right; have:=(uh FS2).2 b h1; omega
      ·right; rw[h1]; simp; omega
  | some c=>
   obtain⟨hcl,⟨nn,u⟩,hpc⟩:=fCmp_pre hc
   rw[data_len] at hcl
   have hpc':pCmp (dr s c)=some (nn,u):=hpc
   obtain⟨-,-,-,-,hul,g,hgu⟩:=pCmp_hd hpc'
   have e1:natO (some c)=(c:Int):=rfl
   rw[e1]
   obtain⟨K,hK⟩ : ∃ K,(dr s c).length - u.length=K:=⟨_,rfl⟩
   have hgl:g.length=K:=by rw[← hK,hgu]; simp
   have hKs:c+K≤s.size:=by have:=dr_len s c; rw[hgu,List.length_append] at this; omega
   have hu:dr s (c+K)=u:=by rw[← dr_dr,hgu,← hgl]; simp
   have HT:Hid (sPr (n+1) s.data.toList=match sOpd (s.data.toList.take c),sOpd u with
     | some a,some b=>some ([a,b,cmO nn],0)
     | _,_=>none):=by
    show _=_
    rw[uh HR]
    unfold sTest
    rw[hc]
    simp only[hpc]
    cases sOpd (s.data.toList.take c) <;> cases sOpd u <;> rfl
   have HCA:=hide (compAt_walk s c w1 hs (by omega))
   have eV:cmV (dr s c) (pCmp (dr s c)) = .tuple #[.int .i64 nn,.int .i64 (K:Int)]:=by rw[hpc',← hK]; rfl
   rw[eV] at HCA
   have HOA:=hide fun w=>operand_walk (s.extract 0 c) w (by simp; omega)
   have HOB:=hide fun w=>operand_walk (s.extract (c+K) s.size) w (by simp; omega)
   have eA:(s.extract 0 c).data.toList=s.data.toList.take c:=by rw[Lib.extract_data]; simp
   rw[eA] at HOA
   rw[dr_ext,hu] at HOB
   have cI:¬ (c:Int) < 0:=by omega
   have c2:(c:Int)≤(s.size:Int):=by omega
   have c3:(c:Int)+(K:Int)≤(s.size:Int):=by omega
   generalize sOpd (s.data.toList.take c)=RA at *
   generalize sOpd u=RB at *
   clear hc hpc hpc' hul hgu e1 hK hgl hu eV eA HR hcl u g
   go_wp2_with fail
   refine (uh HCA).mono ?_
   rintro e w2 ⟨rfl,b2⟩
   have B2:=below_next (uh HB1) b2
   have hz2:=b2.size
   clear HCA b2 HB1
   go_wp2_with fail
   refine (uh HOA _).mono ?_
   rintro e w3 ⟨b3,oa,qa',boa,rfl,rowa,fsha,hxa⟩
   obtain⟨qa,qc,rfl,-,-⟩:=rowa.form
   have hz3:=b3.size
   have hal:=al_b w3 (.cells #[.int .i64 oa.k,.int .i64 oa.n,.string oa.s,.bool oa.root,.slice qa oa.steps.length qc] 37)
   have hza:(w3.alloc (.cells #[.int .i64 oa.k,.int .i64 oa.n,.string oa.s,.bool oa.root,.slice qa oa.steps.length qc] 37)).heap.size=w3.heap.size+1:=by simp
   have B4:=below_next (below_next B2 b3) hal
   have rowa4:=rowa.below hal
   have kA:FB (w3.alloc (.cells #[.int .i64 oa.k,.int .i64 oa.n,.string oa.s,.bool oa.root,.slice qa oa.steps.length qc] 37)) w3.heap.size oa.k oa.n oa.s oa.root (.slice qa oa.steps.length qc):=heap_alloc_new w3 _
   have HKA:=hide kA
   have HB4:=hide B4
   have HROA:=hide rowa4
   have HFA:=hide fsha
   have HXA:=hide hxa
   have HOB2:=hide (uh HOB (w3.alloc (.cells #[.int .i64 oa.k,.int .i64 oa.n,.string oa.s,.bool oa.root,.slice qa oa.steps.length qc] 37)))
   clear HOA HOB b3 B2 rowa fsha hxa hal B4 rowa4 kA
   go_wp2_with fail
   generalize (w3.alloc (.cells #[.int .i64 oa.k,.int .i64 oa.n,.string oa.s,.bool oa.root,.slice qa oa.steps.length qc] 37))=w4 at *
   refine (uh HOB2).mono ?_
   rintro e w5 ⟨b5,ob,qb',bob,rfl,rowb,fshb,hxb⟩
   obtain⟨pa,pc,rfl,-,-⟩:=rowb.form
   have hz5:=b5.size
   have hal:=al_b w5 (.cells #[.int .i64 ob.k,.int .i64 ob.n,.string ob.s,.bool ob.root,.slice pa ob.steps.length pc] 37)
   have hz6:(w5.alloc (.cells #[.int .i64 ob.k,.int .i64 ob.n,.string ob.s,.bool ob.root,.slice pa ob.steps.length pc] 37)).heap.size=w5.heap.size+1:=by simp
   have b6:=below_next b5 hal
   have B6:=below_next (uh HB4) b6
   obtain⟨ca0,ca1,ca2,ca3,ca4⟩:=((uh HKA).below b6).c
   have rowa6:=(uh HROA).below b6
   have rowb6:=rowb.below hal
   have hrow6:=(uh HH).below B6
   have kB:FB (w5.alloc (.cells #[.int .i64 ob.k,.int .i64 ob.n,.string ob.s,.bool ob.root,.slice pa ob.steps.length pc] 37)) w5.heap.size ob.k ob.n ob.s ob.root (.slice pa ob.steps.length pc):=heap_alloc_new w5 _
   have HFB:=hide fshb
   have HXB:=hide hxb
   have hbw:∀ b∈boa,b < w4.heap.size:=(uh HROA).lt
   have HBW:=hide hbw
   clear hbw b5 hal b6 rowb fshb hxb HOB2 HROA HKA HB4
   go_upto_region 14 with fail
   generalize (w5.alloc (.cells #[.int .i64 ob.k,.int .i64 ob.n,.string ob.s,.bool ob.root,.slice pa ob.steps.length pc] 37))=w6 at *
   obtain⟨cb0,cb1,cb2,cb3,cb4⟩:=kB.c
   have hal7:=al_b w6 (.cells #[.int .i64 oa.k,.int .i64 oa.n,.string oa.s,.bool oa.root,.slice qa oa.steps.length qc,.int .i64 ob.k,.int .i64 ob.n,.string ob.s,.bool ob.root,.slice pa ob.steps.length pc,.int .i64 9,.int .i64 nn,.string ⟨#[]⟩,.bool false,.slice none 0 0] 37)
   have B7:=hide (below_next B6 hal7)
   have RW7:=hide (hrow6.below hal7)
   have EL:Hid (∀ (j:Nat) (p:List Value×List Nat) (y:PFOp),[([.int .i64 oa.k,.int .i64 oa.n,.string oa.s,.bool oa.root,.slice qa oa.steps.length qc],boa),([.int .i64 ob.k,.int .i64 ob.n,.string ob.s,.bool ob.root,.slice pa ob.steps.length pc],bob),([.int .i64 9,.int .i64 nn,.string ⟨#[]⟩,.bool false,.slice none 0 0],([] : List Nat))][j]?=some p→[oa,ob,cmO nn][j]?=some y→fopE.E (w6.alloc (.cells #[.int .i64 oa.k,.int .i64 oa.n,.string oa.s,.bool oa.root,.slice qa oa.steps.length qc,.int .i64 ob.k,.int .i64 ob.n,.string ob.s,.bool ob.root,.slice pa ob.steps.length pc,.int .i64 9,.int .i64 nn,.string ⟨#[]⟩,.bool false,.slice none 0 0] 37)) p.1 y p.2):=fun j p y h1 h2=>by
    match j,h1,h2 with
    | 0,h1,h2=>simp at h1 h2; subst h1; subst h2; exact⟨_,rfl,rowa6.below hal7⟩
    | 1,h1,h2=>simp at h1 h2; subst h1; subst h2; exact⟨_,rfl,rowb6.below hal7⟩
    | 2,h1,h2=>simp at h1 h2; subst h1; subst h2; exact fopE_lit _ _ _ _
    | j+3,h1,h2=>simp at h1
   have hfl:([([.int .i64 oa.k,.int .i64 oa.n,.string oa.s,.bool oa.root,.slice qa oa.steps.length qc],boa),([.int .i64 ob.k,.int .i64 ob.n,.string ob.s,.bool ob.root,.slice pa ob.steps.length pc],bob),([.int .i64 9,.int .i64 nn,.string ⟨#[]⟩,.bool false,.slice none 0 0],([] : List Nat))] : List (List Value×List Nat)).flatMap (·.2)=boa++bob:=by simp
   have HFL:=hide hfl
   have FI:Hid (Fsh B (boa++bob)):=((uh HFA).mono (by omega)).app (uh HBW) (uh HFB) (by omega)
   have AP:Hid (∀ b∈boa++bob,b ∉ bl):=fun b hb hbl=>by
    have h2:=(uh HH).lt b hbl
    rcases List.mem_append.1 hb with hb | hb
    ·have h1:=(uh HFA).2 b hb; omega
    ·have h1:=(uh HFB).2 b hb; omega
   have ONE:Hid (∀ u∈([([.int .i64 oa.k,.int .i64 oa.n,.string oa.s,.bool oa.root,.slice qa oa.steps.length qc],boa),([.int .i64 ob.k,.int .i64 ob.n,.string ob.s,.bool ob.root,.slice pa ob.steps.length pc],bob),([.int .i64 9,.int .i64 nn,.string ⟨#[]⟩,.bool false,.slice none 0 0],([] : List Nat))] : List (List Value×List Nat)).flatMap (·.1),u.oneCell'=true):=by
    intro u hu
    simp at hu
    rcases hu with rfl | rfl | rfl | rfl | rfl | rfl | rfl | rfl | rfl | rfl | rfl | rfl | rfl | rfl | rfl <;> rfl
   have hB6:B≤w6.heap.size:=by omega
   have hW6:w.heap.size≤w6.heap.size:=by omega
   have hW4:w.heap.size≤w4.heap.size:=by omega
   clear hal7 rowa6 rowb6 hrow6 kB B6 hfl hz6 hza
   obtain⟨fa,hfa⟩ : ∃ b,RA.isSome=b:=⟨_,rfl⟩
   obtain⟨fb,hfb⟩ : ∃ b,RB.isSome=b:=⟨_,rfl⟩
   rw[hfa,hfb]
   have HFA2:=hide hfa
   have HFB2:=hide hfb
   clear hfa hfb
   cases fa
   all_goals
    go_wp2_with (at_builtin; refine wpl_apps ekFOp rfl (.tmp 119) (.tmp 124) rfl rfl (uh RW7) (uh HF) (qs:=[([.int .i64 oa.k,.int .i64 oa.n,.string oa.s,.bool oa.root,.slice qa oa.steps.length qc],boa),([.int .i64 ob.k,.int .i64 ob.n,.string ob.s,.bool ob.root,.slice pa ob.steps.length pc],bob),([.int .i64 9,.int .i64 nn,.string ⟨#[]⟩,.bool false,.slice none 0 0],([] : List Nat))]) (ys:=[oa,ob,cmO nn]) rfl (by simp) (uh EL) (by rw[uh HFL]; exact uh FI) (by rw[uh HFL]; exact uh AP) rfl (by exact lit_cells w6 [_,_,_,_,_,_,_,_,_,_,_,_,_,_,_] _) (uh ONE) (by simp; omega) (by simp; omega) ?_)
    intro v2 w7 bl2 hA
    have HA:=hide hA
    obtain⟨za,zc,rfl,-,-⟩:=hA.row.form
    clear hA
    go_wp2
    go_ret3
    have hA:=uh HA
    have hfr:Fr bl w w7:=(Fr.of_below (uh B7)).trans (hA.fr (uh RW7))
    refine⟨hfr.below (uh HF).2 hB,(Shp.of_below (uh B7)).trans hA.shp,_,_,_,rfl,fun hn=>?_,fun y hy=>?_⟩
    ·rw[uh HT] at hn
     refine⟨?_,(hA.row.any hA.fsh).mono (by simp only[List.length_append,List.length_cons,List.length_nil]; omega)⟩
     have h1:=uh HFA2
     have h2:=uh HFB2
     cases RA with
     | none=>first | rfl | cases h1
     | some a=>
      cases RB with
      | none=>first | (cases h1; done) | exact h2.symm
      | some b=>cases hn
    ·rw[uh HT] at hy
     have h1:=uh HFA2
     have h2:=uh HFB2
     cases RA with
     | none=>cases hy
     | some a=>
      cases RB with
      | none=>cases hy
      | some b=>
       injection hy with hy
       subst hy
       first
       | cases h1; done
       | (
         refine⟨h2.symm,rfl,hfr,bl2,?_,hA.fsh,fun b hb=>?_⟩
         ·show ORow fopE w7 _ (ops++[a,b,cmO nn]) bl2
          rw[← uh HXA a rfl,← uh HXB b rfl]
          exact hA.row
         ·rcases hA.sub b hb with h3 | h3 | h3
          ·exact .inl h3
          ·right
           rcases List.mem_append.1 h3 with h3 | h3
           ·have:=(uh HFA).2 b h3; omega
           ·have:=(uh HFB).2 b h3; omega
          ·right; rw[h3]; simp; omega)
theorem TS.cells {w:World} {B:Nat} {v:Value} {ts:List Bs} (h:TS w B v ts) : ∃ b cap,v = .slice b ts.length cap∧∀ (j:Nat) (hj:j < ts.length),∃ g,b=some ⟨g,0,none⟩∧w.cell? ⟨g,j,none⟩=some (.string (bsT ts[j])):=by
 rcases h.2 with ⟨hv,h0⟩ | ⟨g,cap,cur,hv,_⟩
 ·exact⟨none,0,by rw[hv,h0],fun j hj=>by omega⟩
 ·refine⟨_,cap,hv,fun j hj=>⟨g,rfl,?_⟩⟩
  have:=World.ownsRow.cells (g:=g) (show w.ownsRow B 9 1 v ts.length (ts.map fun t=>Value.string (bsT t)) from h) (by rw[hv]; rfl) j (.string (bsT ts[j])) (by rw[List.getElem?_map,List.getElem?_eq_getElem hj]; rfl)
  rw[Go.WideShapes.add_plain] at this
  simpa using this
structure CS (w:World) (B C:Nat) (bl:List Nat) (tv:Value) (ps:List Bs) (wr:World) (ov:Value) (L:List PFOp) (bc:List Nat) : Prop where
 fr:Fr bl w wr
 shp:Shp w wr
 row:ORow fopE wr ov L bc
 fsh:Fsh B bc
 new:∀ b∈bc,b∈bl∨C≤b
 ts:TS wr w.heap.size tv ps
 lt:∀ g,tv.ownBlock=some g→g < C
 old:∀ b∈bl,b < w.heap.size
 sz:w.heap.size≤C∧C≤wr.heap.size
section
variable {w:World} {B C:Nat} {bl:List Nat} {tv:Value} {ps:List Bs} {wr:World} {ov:Value} {L:List PFOp} {bc:List Nat}
theorem CS.far (h:CS w B C bl tv ps wr ov L bc) : ∀ b∈tv.ownBlock.toList,b < wr.heap.size∧b ∉ bc:=by
 intro b hb
 have h1:tv.ownBlock=some b:=by simpa using hb
 have h2:=h.lt b h1
 have h3:=(World.ownsRow.lt h.ts b h1).1
 refine⟨by have:=h.sz.2; omega,fun hbc=>?_⟩
 rcases h.new b hbc with h4 | h4
 ·have:=h.old b h4; omega
 ·omega
theorem CS.frs (h:CS w B C bl tv ps wr ov L bc) {w2:World} (hf:Fr bc wr w2) : Fr bl w w2:=h.fr.trans' hf fun b hb=>by
 rcases h.new b hb with h4 | h4
 ·exact .inl h4
 ·right; have:=h.sz.1; omega
theorem CS.step (h:CS w B C bl tv ps wr ov L bc) {w2:World} {v2:Value} {L2:List PFOp} {b2:List Nat} (hf:Fr bc wr w2) (hs:Shp wr w2) (row:ORow fopE w2 v2 L2 b2) (fsh:Fsh B b2) (new:∀ b∈b2,b∈bc∨wr.heap.size≤b) : CS w B C bl tv ps w2 v2 L2 b2:=
 ⟨h.frs hf,h.shp.trans hs,row,fsh,fun b hb=>by
  rcases new b hb with h4 | h4
  ·exact h.new b h4
  ·right; have:=h.sz.2; omega,own_keep h.ts fun b hb=>hf.block b (h.far b hb).1 (h.far b hb).2,h.lt,h.old,h.sz.1,by have:=h.sz.2; have:=hf.size; omega⟩
theorem CS.below (h:CS w B C bl tv ps wr ov L bc) {w2:World} (hb:Below wr.heap.size wr w2) : CS w B C bl tv ps w2 ov L bc:=
 h.step (.of_below hb) (.of_below hb) (h.row.below hb) h.fsh fun _ hb=>.inl hb
theorem CS.app (h:CS w B C bl tv ps wr ov L bc) {w2:World} {v2:Value} {b2:List Nat} {x:PFOp} (hA:Appd fopE B wr w2 ov v2 bc [] b2 (L++[x])) : CS w B C bl tv ps w2 v2 (L++[x]) b2:=
 h.step (hA.fr h.row) hA.shp hA.row hA.fsh fun b hb=>by
  rcases hA.sub b hb with h1 | h1 | h1
  ·exact .inl h1
  ·simp at h1
  ·right; omega
end
theorem cat2_con (c:UInt8) (p:Bs) (r:List Bs) : (cat2 c (p :: r)).length=p.length+2+(cat2 c r).length:=by unfold cat2; simp; omega
theorem spl_piece {c:UInt8} {l:Bs} : ∀ p∈spl c [c] 0 [] l,p.length≤l.length:=by
 have hj:=spl_jn c [c] l 0 []
 rw[List.nil_append] at hj
 generalize spl c [c] 0 [] l=ps at *
 cases ps with
 | nil=>exact absurd rfl hj.1
 | cons p r=>
  have e:l.length=p.length+(cat2 c r).length:=by rw[← hj.2,jn_cat]; simp
  have h2:∀ (r:List Bs),∀ q∈r,q.length≤(cat2 c r).length:=fun r=>by
   induction r with
   | nil=>simp
   | cons a b ih=>
    intro q hq
    have e1:(cat2 c (a :: b)).length=a.length+2+(cat2 c b).length:=by unfold cat2; simp; omega
    rcases List.mem_cons.1 hq with rfl | hq
    ·omega
    ·have:=ih q hq; omega
  intro q hq
  rcases List.mem_cons.1 hq with rfl | hq
  ·omega
  ·have:=h2 r q hq; omega
theorem spl_count {c:UInt8} {l:Bs} : (spl c [c] 0 [] l).length≤l.length+1:=by
 have hj:=spl_jn c [c] l 0 []
 rw[List.nil_append] at hj
 generalize spl c [c] 0 [] l=ps at *
 cases ps with
 | nil=>simp
 | cons p r=>
  have e:l.length=p.length+(cat2 c r).length:=by rw[← hj.2,jn_cat]; simp
  have:=cat2_len c r
  rw[List.length_cons]; omega
def CUp (g:Bs→Option XC) (k:Int) (c:UInt8) (n:Nat) (R:Option XC) (ps:List Bs) (i:Nat) (x:XC) : Prop:=
 (i=0∧x=([],0)∧R=sJoin g k ps∧∀ p r,ps=p :: r→p.length+(cat2 c r).length=n)∨(1≤i∧R=sMore g k x (ps.drop i)∧x.1.length+3*(cat2 c (ps.drop i)).length≤3*n∧x.2≤n)
theorem CUp.start {g:Bs→Option XC} {k:Int} {c:UInt8} {l:Bs} : CUp g k c l.length (sJoin g k (spl c [c] 0 [] l)) (spl c [c] 0 [] l) 0 ([],0):=by
 refine .inl ⟨rfl,rfl,rfl,fun p r hp=>?_⟩
 have hj:=spl_jn c [c] l 0 []
 rw[List.nil_append,hp] at hj
 rw[← hj.2,jn_cat]; simp
theorem CUp.len {g:Bs→Option XC} {k:Int} {c:UInt8} {n:Nat} {R:Option XC} {ps:List Bs} {i:Nat} {x:XC} (h:CUp g k c n R ps i x) : x.1.length≤3*n∧x.2≤n∧∀ hi:i < ps.length,x.1.length+3*ps[i].length≤3*n:=by
 rcases h with ⟨rfl,rfl,-,h⟩ | ⟨h1,-,h3,h4⟩
 ·refine⟨by simp,by simp,fun hi=>?_⟩
  cases ps with
  | nil=>simp at hi
  | cons p r=>have:=h p r rfl; simp; omega
 ·refine⟨by omega,h4,fun hi=>?_⟩
  have e:ps.drop i=ps[i] :: ps.drop (i+1):=by rw[← List.getElem_cons_drop (h:=hi)]
  have e1:(cat2 c (ps[i] :: ps.drop (i+1))).length=ps[i].length+2+(cat2 c (ps.drop (i+1))).length:=cat2_con _ _ _
  rw[e,e1] at h3
  omega
theorem CUp.no {g:Bs→Option XC} {k:Int} {c:UInt8} {n:Nat} {R:Option XC} {ps:List Bs} {i:Nat} {x:XC} (h:CUp g k c n R ps i x) (hi:i < ps.length) (hp:g ps[i]=none) : R=none:=by
 rcases h with ⟨rfl,rfl,hR,-⟩ | ⟨h1,hR,-,-⟩
 ·cases ps with
  | nil=>simp at hi
  | cons p r=>rw[hR]; show (match g p with | none=>none | some z=>sMore g k z r)=none; rw[show g p=none from hp]
 ·have e:ps.drop i=ps[i] :: ps.drop (i+1):=by rw[← List.getElem_cons_drop (h:=hi)]
  rw[hR,e]
  show (match g ps[i] with | none=>none | some z=>sMore g k (joinX k x z) (ps.drop (i+1)))=none
  rw[hp]
theorem CUp.next {g:Bs→Option XC} (hg:SmallC g) {k:Int} {c:UInt8} {n:Nat} {R:Option XC} {ps:List Bs} {i:Nat} {x y:XC} (h:CUp g k c n R ps i x) (hi:i < ps.length) (hp:g ps[i]=some y) : (i=0→CUp g k c n R ps 1 (x.1++y.1,max x.2 y.2))∧(0 < i→CUp g k c n R ps (i+1) (joinX k x y)):=by
 have hy:=hg _ y hp
 rcases h with ⟨rfl,rfl,hR,h⟩ | ⟨h1,hR,h3,h4⟩
 ·refine⟨fun _=>?_,fun h=>by omega⟩
  cases ps with
  | nil=>simp at hi
  | cons p r=>
   have hn:=h p r rfl
   have hp':g p=some y:=hp
   have hy':y.1.length≤3*p.length∧y.2≤p.length:=hy
   refine .inr ⟨Nat.le_refl _,?_,?_,?_⟩
   ·rw[hR]
    show (match g p with | none=>none | some z=>sMore g k z r)=_
    rw[hp']; simp
   ·simp only[List.nil_append,List.drop_succ_cons,List.drop_zero]; omega
   ·simp only; omega
 ·refine⟨fun h=>by omega,fun _=>?_⟩
  have e:ps.drop i=ps[i] :: ps.drop (i+1):=by rw[← List.getElem_cons_drop (h:=hi)]
  have e1:(cat2 c (ps[i] :: ps.drop (i+1))).length=ps[i].length+2+(cat2 c (ps.drop (i+1))).length:=cat2_con _ _ _
  rw[e,e1] at h3
  refine .inr ⟨by omega,?_,?_,?_⟩
  ·rw[hR,e]
   show (match g ps[i] with | none=>none | some z=>sMore g k (joinX k x z) (ps.drop (i+1)))=_
   rw[hp]
  ·have:(joinX k x y).1.length=x.1.length+y.1.length+1:=by simp[joinX]; omega
   omega
  ·show max x.2 y.2≤n
   omega
theorem CUp.fin {g:Bs→Option XC} {k:Int} {c:UInt8} {n:Nat} {R:Option XC} {ps:List Bs} {i:Nat} {x:XC} (h:CUp g k c n R ps i x) (hi:ps.length≤i) (hne:ps≠[]) : R=some x:=by
 rcases h with ⟨rfl,rfl,hR,-⟩ | ⟨h1,hR,-,-⟩
 ·exact absurd (List.eq_nil_of_length_eq_zero (by omega)) hne
 ·rw[hR,List.drop_of_length_le hi]; rfl
theorem cond_join {m:Nat} {lv lw:Int} {c:UInt8} {k:Int} (hlv:(lv=0∧lw=1∧c=124∧k=11)∨(lv=1∧lw=2∧c=38∧k=10)) {g:Bs→Option XC} (hg:SmallC g) (IH:CondOk m lw g) : CondOk m lv (fun l=>sJoin g k (spl c [c] 0 [] l)):=by
 intro s v ops bl B w hm hs h hF hB hN
 have HSP:=hide (split2_walk s ⟨#[c,c]⟩ c [c] w hs rfl (by show 2≤10; decide))
 have HU:Hid (CUp g k c s.size (sJoin g k (spl c [c] 0 [] s.data.toList)) (spl c [c] 0 [] s.data.toList) 0 ([],0)):=by
  have:=CUp.start (g:=g) (k:=k) (c:=c) (l:=s.data.toList)
  rw[data_len] at this
  exact this
 have HPL:Hid (∀ p∈spl c [c] 0 [] s.data.toList,p.length≤s.size):=fun p hp=>by
  have:=spl_piece (c:=c) (l:=s.data.toList) p hp
  rw[data_len] at this
  exact this
 have hps:(spl c [c] 0 [] s.data.toList).length≤s.size+1:=by have:=spl_count (c:=c) (l:=s.data.toList); rwa [data_len] at this
 have HNE:=hide (spl_jn c [c] s.data.toList 0 []).1
 have HG:=hide hg
 have HIH:=hide IH
 have HH:=hide h
 have HF:=hide hF
 obtain⟨va,vc,rfl,-,-⟩:=h.form
 show Calls _ _ _ _ (CRet w B ops bl (ops.length+3*s.size+3) (sJoin g k (spl c [c] 0 [] s.data.toList)))
 generalize sJoin g k (spl c [c] 0 [] s.data.toList)=R at *
 generalize spl c [c] 0 [] s.data.toList=ps at *
 clear h hF IH hg
 rcases hlv with ⟨rfl,rfl,rfl,rfl⟩ | ⟨rfl,rfl,rfl,rfl⟩
 ·go_enter Tryz.func65,Tryz.ntmps65
  go_wp2_with fail
  refine (uh HSP).mono ?_
  rintro e w1 ⟨tv,rfl,hts,b1⟩
  obtain⟨ta,tc,rfl,-⟩:=hts.cells
  have hz1:=b1.size
  have S0:Hid (CS w B w1.heap.size bl (.slice ta ps.length tc) ps w1 (.slice va ops.length vc) (ops++[]) bl):=by
   show CS _ _ _ _ _ _ _ _ _ _
   rw[List.append_nil]
   exact⟨.of_below b1,.of_below b1,(uh HH).below b1,uh HF,fun b hb=>.inl hb,hts,fun g hg=>(World.ownsRow.lt hts g hg).2,(uh HH).lt,hz1,Nat.le_refl _⟩
  clear HSP hts b1
  go_wp2
  go_loopw [2,12,13] (fun ov dv iv wr=>∃ (i:Nat) (x:XC) (oa:Option Addr) (ol oc:Nat) (bc:List Nat),i≤ps.length∧iv = .int .i64 (i:Int)∧dv = .int .i64 (x.2:Int)∧ov = .slice oa ol oc∧Hid (CUp g _ _ s.size R ps i x)∧Hid (CS w B w1.heap.size bl (.slice ta ps.length tc) ps wr (.slice oa ol oc) (ops++x.1) bc)) (fun _ _ iv _=>ps.length - (intOf iv).toNat)
  case atStart=>exact⟨0,([],0),va,ops.length,vc,bl,Nat.zero_le _,rfl,rfl,rfl,HU,S0⟩
  case round=>
   obtain⟨i,x,oa,ol,oc,bc,hi,rfl,rfl,rfl,hu,hcs⟩:=hrel
   clear HU S0
   obtain⟨hx1,hx2,hx3⟩:=(uh hu).len
   by_cases hlt:i < ps.length
   ·have hltI:(i:Int) < (ps.length:Int):=by omega
    obtain⟨tb',tc',htv,hcell⟩:=(uh hcs).ts.cells
    obtain⟨gp,hgp,hc⟩:=hcell i hlt
    have htb:ta=some ⟨gp,0,none⟩:=by injection htv with h1 _ _; rw[h1]; exact hgp
    subst htb
    have hpl:=uh HPL ps[i] (List.getElem_mem hlt)
    have hx4:=hx3 hlt
    have hsz:=(uh hcs).sz
    have hpz:(bsT ps[i]).size=ps[i].length:=by simp[bsT,ByteArray.size]
    have hpd:(bsT ps[i]).data.toList=ps[i]:=by simp[bsT]
    have HC:=hide (uh HIH (bsT ps[i]) _ _ bc B wr (by omega) (by omega) (uh hcs).row (uh hcs).fsh (by omega) (by rw[List.length_append,hpz]; omega))
    rw[hpd,hpz] at HC
    have HNX:Hid (∀ y,g ps[i]=some y→_):=fun y hp=>(uh hu).next (uh HG) (y:=y) hlt hp
    have HNO:Hid (g ps[i]=none→R=none):=fun hp=>(uh hu).no hlt hp
    have HLY:Hid (∀ y,g ps[i]=some y→y.1.length≤3*ps[i].length∧y.2≤ps[i].length):=fun y hp=>uh HG ps[i] y hp
    clear hcell htv hgp hpz hpd hx3 hu
    generalize ps[i]=p at *
    go_wp2_with fail
    refine (uh HC).mono ?_
    rintro e w2 ⟨b2,s2,v2,ok,d,rfl,hno,hyes⟩
    clear HC
    cases hp:g p with
    | none=>
     obtain⟨rfl,-⟩:=hno hp
     have HR:=hide (uh HNO hp)
     have HAN:Hid (AnyR w2 B 37 5 (.slice oa ol oc) (ops.length+3*s.size+3)):=(((uh hcs).row.any (uh hcs).fsh).shp s2).mono (by rw[List.length_append]; omega)
     have HBB:Hid (Below B w w2):=((uh hcs).fr.below (uh HF).2 hB).trans b2
     have HSS:Hid (Shp w w2):=(uh hcs).shp.trans s2
     clear hno hyes hp b2 s2 hcs HNX HNO HLY
     go_wp2
     try simp only[Exit.inBlock,Exit.then]
     go_ret3
     exact⟨uh HBB,uh HSS,_,_,_,rfl,fun _=>⟨rfl,uh HAN⟩,fun y hy=>by rw[uh HR] at hy; cases hy⟩
    | some y=>
     obtain⟨rfl,rfl,fr2,bl2,row2,fsh2,new2⟩:=hyes y hp
     have cs2:=(uh hcs).step fr2 s2 row2 fsh2 new2
     obtain⟨L2,hL2⟩ : ∃ L,ops++x.1++y.1=L:=⟨_,rfl⟩
     have hll:L2.length≤ops.length+6*s.size:=by rw[← hL2,List.length_append,List.length_append]; have:=(uh HLY y hp).1; omega
     rw[hL2] at cs2 row2
     have CS2:=hide cs2
     have HL2:=hide hL2
     obtain⟨hn0,hn1⟩:=uh HNX y hp
     have HN0:=hide hn0
     have HN1:=hide hn1
     have hly:=uh HLY y hp
     obtain⟨ya,yc,rfl,-,-⟩:=row2.form
     clear hno hyes hp b2 s2 hcs HNX HNO HLY cs2 hL2 row2 fsh2 new2 fr2 hn0 hn1
     go_upto_if 54 with fail
     go_cut [12] from 48 to 55 (fun dv wx=>dv = .int .i64 ((max x.2 y.2:Nat) : Int)∧w2=wx)
     case first=>
      by_cases hd:x.2 < y.2
      ·have hdI:(x.2:Int) < (y.2:Int):=by omega
       have HM:Hid (max x.2 y.2=y.2):=by show _=_; omega
       go_wp2
       go_meet
       case rel=>exact⟨by rw[uh HM],rfl⟩
      ·have hdI:¬ (x.2:Int) < (y.2:Int):=by omega
       have HM:Hid (max x.2 y.2=x.2):=by show _=_; omega
       go_wp2
       go_meet
       case rel=>exact⟨by rw[uh HM],rfl⟩
     obtain⟨rfl,rfl⟩:=hcut
     by_cases h0:i=0
     ·have HUP:=hide (uh HN0 h0)
      have h0I:¬ (0:Int) < (i:Int):=by omega
      have HI1:Hid (i+1=1):=by show _=_; omega
      clear HN0 HN1
      go_wp2
      go_roundw
      case rel=>
       refine⟨1,(x.1++y.1,max x.2 y.2),ya,_,yc,bl2,by omega,by rw[← uh HI1]; go_num,rfl,rfl,HUP,?_⟩
       show CS _ _ _ _ _ _ _ _ (ops++(x.1++y.1)) _
       rw[← List.append_assoc,uh HL2]
       exact uh CS2
      case measure=>simp[intOf]; omega
     ·have HUP:=hide (uh HN1 (by omega))
      have h0I:(0:Int) < (i:Int):=by omega
      clear HN0 HN1
      have CS3:=(uh CS2).below (al_b w2 (.cells #[.int .i64 11,.int .i64 0,.string ⟨#[]⟩,.bool false,.slice none 0 0] 37))
      have HCS3:=hide CS3
      have hsz3:=(uh CS2).sz
      clear CS3
      go_wp2_with (at_builtin; refine wpl_app1 ekFOp rfl (.tmp 58) (.tmp 61) rfl rfl (uh HCS3).row (uh HCS3).fsh (vs:=[.int .i64 11,.int .i64 0,.string ⟨#[]⟩,.bool false,.slice none 0 0]) (y:=opK 11) (fopE_lit _ _ _ _) (Fsh.nil _) (by simp) rfl (by exact lit_cells w2 [_,_,_,_,_] _) (fop_one _ _ _ _ _ _ _) (by simp; omega) (by omega) ?_)
      intro v3 w3 bl3 hA
      have CS4:=hide ((uh HCS3).app hA)
      obtain⟨za,zc,rfl,-,-⟩:=hA.row.form
      clear hA
      go_wp2
      go_roundw
      case rel=>
       refine⟨i+1,joinX 11 x y,za,_,zc,bl3,by omega,by go_num,rfl,rfl,HUP,?_⟩
       show CS _ _ _ _ _ _ _ _ (ops++(x.1++y.1++[opK 11])) _
       rw[← List.append_assoc,← List.append_assoc,uh HL2]
       exact uh CS4
      case measure=>simp[intOf]; omega
   ·have HR:=hide ((uh hu).fin (by omega) (uh HNE))
    have hltI:¬ (i:Int) < (ps.length:Int):=by omega
    clear hu
    go_wp2
    go_ret3
    refine⟨(uh hcs).fr.below (uh HF).2 hB,(uh hcs).shp,_,_,_,rfl,fun hn=>(by rw[uh HR] at hn; cases hn),fun y hy=>?_⟩
    rw[uh HR] at hy
    injection hy with hy
    subst hy
    refine⟨rfl,rfl,(uh hcs).fr,bc,(uh hcs).row,(uh hcs).fsh,fun b hb=>?_⟩
    rcases (uh hcs).new b hb with h1 | h1
    ·exact .inl h1
    ·right; omega
 ·go_enter Tryz.func65,Tryz.ntmps65
  go_wp2_with fail
  refine (uh HSP).mono ?_
  rintro e w1 ⟨tv,rfl,hts,b1⟩
  obtain⟨ta,tc,rfl,-⟩:=hts.cells
  have hz1:=b1.size
  have S0:Hid (CS w B w1.heap.size bl (.slice ta ps.length tc) ps w1 (.slice va ops.length vc) (ops++[]) bl):=by
   show CS _ _ _ _ _ _ _ _ _ _
   rw[List.append_nil]
   exact⟨.of_below b1,.of_below b1,(uh HH).below b1,uh HF,fun b hb=>.inl hb,hts,fun g hg=>(World.ownsRow.lt hts g hg).2,(uh HH).lt,hz1,Nat.le_refl _⟩
  clear HSP hts b1
  go_wp2
  go_loopw [2,12,13] (fun ov dv iv wr=>∃ (i:Nat) (x:XC) (oa:Option Addr) (ol oc:Nat) (bc:List Nat),i≤ps.length∧iv = .int .i64 (i:Int)∧dv = .int .i64 (x.2:Int)∧ov = .slice oa ol oc∧Hid (CUp g _ _ s.size R ps i x)∧Hid (CS w B w1.heap.size bl (.slice ta ps.length tc) ps wr (.slice oa ol oc) (ops++x.1) bc)) (fun _ _ iv _=>ps.length - (intOf iv).toNat)
  case atStart=>exact⟨0,([],0),va,ops.length,vc,bl,Nat.zero_le _,rfl,rfl,rfl,HU,S0⟩
  case round=>
   obtain⟨i,x,oa,ol,oc,bc,hi,rfl,rfl,rfl,hu,hcs⟩:=hrel
   clear HU S0
   obtain⟨hx1,hx2,hx3⟩:=(uh hu).len
   by_cases hlt:i < ps.length
   ·have hltI:(i:Int) < (ps.length:Int):=by omega
    obtain⟨tb',tc',htv,hcell⟩:=(uh hcs).ts.cells
    obtain⟨gp,hgp,hc⟩:=hcell i hlt
    have htb:ta=some ⟨gp,0,none⟩:=by injection htv with h1 _ _; rw[h1]; exact hgp
    subst htb
    have hpl:=uh HPL ps[i] (List.getElem_mem hlt)
    have hx4:=hx3 hlt
    have hsz:=(uh hcs).sz
    have hpz:(bsT ps[i]).size=ps[i].length:=by simp[bsT,ByteArray.size]
    have hpd:(bsT ps[i]).data.toList=ps[i]:=by simp[bsT]
    have HC:=hide (uh HIH (bsT ps[i]) _ _ bc B wr (by omega) (by omega) (uh hcs).row (uh hcs).fsh (by omega) (by rw[List.length_append,hpz]; omega))
    rw[hpd,hpz] at HC
    have HNX:Hid (∀ y,g ps[i]=some y→_):=fun y hp=>(uh hu).next (uh HG) (y:=y) hlt hp
    have HNO:Hid (g ps[i]=none→R=none):=fun hp=>(uh hu).no hlt hp
    have HLY:Hid (∀ y,g ps[i]=some y→y.1.length≤3*ps[i].length∧y.2≤ps[i].length):=fun y hp=>uh HG ps[i] y hp
    clear hcell htv hgp hpz hpd hx3 hu
    generalize ps[i]=p at *
    go_wp2_with fail
    refine (uh HC).mono ?_
    rintro e w2 ⟨b2,s2,v2,ok,d,rfl,hno,hyes⟩
    clear HC
    cases hp:g p with
    | none=>
     obtain⟨rfl,-⟩:=hno hp
     have HR:=hide (uh HNO hp)
     have HAN:Hid (AnyR w2 B 37 5 (.slice oa ol oc) (ops.length+3*s.size+3)):=(((uh hcs).row.any (uh hcs).fsh).shp s2).mono (by rw[List.length_append]; omega)
     have HBB:Hid (Below B w w2):=((uh hcs).fr.below (uh HF).2 hB).trans b2
     have HSS:Hid (Shp w w2):=(uh hcs).shp.trans s2
     clear hno hyes hp b2 s2 hcs HNX HNO HLY
     go_wp2
     try simp only[Exit.inBlock,Exit.then]
     go_ret3
     exact⟨uh HBB,uh HSS,_,_,_,rfl,fun _=>⟨rfl,uh HAN⟩,fun y hy=>by rw[uh HR] at hy; cases hy⟩
    | some y=>
     obtain⟨rfl,rfl,fr2,bl2,row2,fsh2,new2⟩:=hyes y hp
     have cs2:=(uh hcs).step fr2 s2 row2 fsh2 new2
     obtain⟨L2,hL2⟩ : ∃ L,ops++x.1++y.1=L:=⟨_,rfl⟩
     have hll:L2.length≤ops.length+6*s.size:=by rw[← hL2,List.length_append,List.length_append]; have:=(uh HLY y hp).1; omega
     rw[hL2] at cs2 row2
     have CS2:=hide cs2
     have HL2:=hide hL2
     obtain⟨hn0,hn1⟩:=uh HNX y hp
     have HN0:=hide hn0
     have HN1:=hide hn1
     have hly:=uh HLY y hp
     obtain⟨ya,yc,rfl,-,-⟩:=row2.form
     clear hno hyes hp b2 s2 hcs HNX HNO HLY cs2 hL2 row2 fsh2 new2 fr2 hn0 hn1
     go_upto_if 54 with fail
     go_cut [12] from 48 to 55 (fun dv wx=>dv = .int .i64 ((max x.2 y.2:Nat) : Int)∧w2=wx)
     case first=>
      by_cases hd:x.2 < y.2
      ·have hdI:(x.2:Int) < (y.2:Int):=by omega
       have HM:Hid (max x.2 y.2=y.2):=by show _=_; omega
       go_wp2
       go_meet
       case rel=>exact⟨by rw[uh HM],rfl⟩
      ·have hdI:¬ (x.2:Int) < (y.2:Int):=by omega
       have HM:Hid (max x.2 y.2=x.2):=by show _=_; omega
       go_wp2
       go_meet
       case rel=>exact⟨by rw[uh HM],rfl⟩
     obtain⟨rfl,rfl⟩:=hcut
     by_cases h0:i=0
     ·have HUP:=hide (uh HN0 h0)
      have h0I:¬ (0:Int) < (i:Int):=by omega
      have HI1:Hid (i+1=1):=by show _=_; omega
      clear HN0 HN1
      go_wp2
      go_roundw
      case rel=>
       refine⟨1,(x.1++y.1,max x.2 y.2),ya,_,yc,bl2,by omega,by rw[← uh HI1]; go_num,rfl,rfl,HUP,?_⟩
       show CS _ _ _ _ _ _ _ _ (ops++(x.1++y.1)) _
       rw[← List.append_assoc,uh HL2]
       exact uh CS2
      case measure=>simp[intOf]; omega
     ·have HUP:=hide (uh HN1 (by omega))
      have h0I:(0:Int) < (i:Int):=by omega
      clear HN0 HN1
      have CS3:=(uh CS2).below (al_b w2 (.cells #[.int .i64 10,.int .i64 0,.string ⟨#[]⟩,.bool false,.slice none 0 0] 37))
      have HCS3:=hide CS3
      have hsz3:=(uh CS2).sz
      clear CS3
      go_wp2_with (at_builtin; refine wpl_app1 ekFOp rfl (.tmp 58) (.tmp 61) rfl rfl (uh HCS3).row (uh HCS3).fsh (vs:=[.int .i64 10,.int .i64 0,.string ⟨#[]⟩,.bool false,.slice none 0 0]) (y:=opK 10) (fopE_lit _ _ _ _) (Fsh.nil _) (by simp) rfl (by exact lit_cells w2 [_,_,_,_,_] _) (fop_one _ _ _ _ _ _ _) (by simp; omega) (by omega) ?_)
      intro v3 w3 bl3 hA
      have CS4:=hide ((uh HCS3).app hA)
      obtain⟨za,zc,rfl,-,-⟩:=hA.row.form
      clear hA
      go_wp2
      go_roundw
      case rel=>
       refine⟨i+1,joinX 10 x y,za,_,zc,bl3,by omega,by go_num,rfl,rfl,HUP,?_⟩
       show CS _ _ _ _ _ _ _ _ (ops++(x.1++y.1++[opK 10])) _
       rw[← List.append_assoc,← List.append_assoc,uh HL2]
       exact uh CS4
      case measure=>simp[intOf]; omega
   ·have HR:=hide ((uh hu).fin (by omega) (uh HNE))
    have hltI:¬ (i:Int) < (ps.length:Int):=by omega
    clear hu
    go_wp2
    go_ret3
    refine⟨(uh hcs).fr.below (uh HF).2 hB,(uh hcs).shp,_,_,_,rfl,fun hn=>(by rw[uh HR] at hn; cases hn),fun y hy=>?_⟩
    rw[uh HR] at hy
    injection hy with hy
    subst hy
    refine⟨rfl,rfl,(uh hcs).fr,bc,(uh hcs).row,(uh hcs).fsh,fun b hb=>?_⟩
    rcases (uh hcs).new b hb with h1 | h1
    ·exact .inl h1
    ·right; omega
theorem cond_prim {m:Nat} {g:Bs→Option XC} (IH:PrimOk m g) : CondOk m 2 g:=by
 intro s v ops bl B w hm hs h hF hB hN
 have HC:=hide (IH s v ops bl B w hm hs h hF hB hN)
 obtain⟨va,vc,rfl,-,-⟩:=h.form
 clear h
 go_enter Tryz.func65,Tryz.ntmps65
 go_wp2_with fail
 refine (uh HC).mono ?_
 rintro e w1 ⟨b1,s1,v1,ok,d,rfl,hno,hyes⟩
 have HX:Hid (CRet w B ops bl (ops.length+3*s.size+3) (g s.data.toList) (.returned (.tuple #[v1,.bool ok,.int .i64 d])) w1):=⟨b1,s1,v1,ok,d,rfl,hno,hyes⟩
 clear HC b1 s1 hno hyes
 go_wp2
 go_ret3
 exact uh HX
theorem cond_all {m:Nat} {g:Bs→Option XC} (hg:SmallC g) (IH:PrimOk m g) : CondOk m 0 (sCdOf g):=
 cond_join (.inl ⟨rfl,rfl,rfl,rfl⟩) (sJoin_len hg 10 38) (cond_join (.inr ⟨rfl,rfl,rfl,rfl⟩) hg (cond_prim IH))
theorem prim_all:∀ n:Nat,PrimOk n (sPr n)
 | 0=>fun s v ops bl B w hm=>by omega
 | n+1=>fun s v ops bl B w hm hs h hF hB hN=>by
  by_cases h0:∃ h0:0 < s.size,s[0]=33
  ·obtain⟨h0,h33⟩:=h0
   exact prim_not (prim_all n) s v ops bl B w hm hs h hF hB hN h0 h33
  ·exact prim_else (cond_all (sPr_len n) (prim_all n)) s v ops bl B w hm hs h hF hB hN fun h1 h2=>h0 ⟨h1,h2⟩
theorem cond_walk (n:Nat) : CondOk n 0 (sCdOf (sPr n)):=cond_all (sPr_len n) (prim_all n)
end Go.Proofs.YtkjcgkfejdogbaaGreatDoor
