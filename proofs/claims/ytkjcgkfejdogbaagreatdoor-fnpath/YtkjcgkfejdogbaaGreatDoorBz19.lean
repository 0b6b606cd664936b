import Derived.Test.YtkjcgkfejdogbaaGreatDoorBz18
import Derived.Test.YtkjcgkfejdogbaaGreatDoorBz1
import Derived.BigQuiet
set_option maxRecDepth 100000
set_option maxHeartbeats 8000000
namespace Go.Proofs.YtkjcgkfejdogbaaGreatDoor
open Go.RowKit
def TS (w:World) (B:Nat) (v:Value) (ts:List Bs) : Prop:=w.ownsRow B 9 1 v ts.length (ts.map fun t=>Value.string (bsT t))
theorem infoSt1:(Tryz.prog.info? 9).map (fun i=>(i.zero,i.size,i.bytes))=some (some (.string ByteArray.empty),1,16):=by kernel_rfl
theorem TS.snoc {w:World} {B:Nat} {v:Value} {ts:List Bs} {t:Bs} (h:w.ownsRow B 9 1 v (ts.length+1) ((ts.map fun t=>Value.string (bsT t))++[.string (bsT t)])) : TS w B v (ts++[t]):=by
 unfold TS
 rw[List.length_append,List.map_append]
 exact h
theorem own_other {w w':World} {B B' e e' n n' z z':Nat} {v v':Value} {xs xs':List Value} (h:w.ownsRow B e z v n xs) (k:w.ownsRow B' e' z' v' n' xs') (hne:e≠e') (hg:w.grownBy w' v'.ownBlock) : w'.ownsRow B e z v n xs:=by
 refine⟨h.1,?_⟩
 rcases h.2 with h0 | ⟨g,cap,cur,hv,hB,hgm,r⟩
 ·exact .inl h0
 ·have hlt:g < w.heap.size:=(Array.getElem?_eq_some_iff.1 hgm).1
  refine .inr ⟨g,cap,cur,hv,hB,(hg.block g hlt ?_).trans hgm,r⟩
  intro e1
  rcases k.2 with ⟨hv',_⟩ | ⟨g',cap',cur',hv',_,hgm',_⟩
  ·subst hv'; cases e1
  ·subst hv'
   have e2:g=g':=by
    have:some g=some g':=e1
    injection this
   subst e2
   rw[hgm] at hgm'
   injection hgm' with h1
   injection h1 with _ h2 _
   exact hne h2
theorem TI.cells {w:World} {B:Nat} {v:Value} {ns:List Nat} (h:TI w B v ns) : ∃ b cap,v = .slice b ns.length cap∧∀ (j:Nat) (hj:j < ns.length),∃ g,b=some ⟨g,0,none⟩∧w.cell? ⟨g,j,none⟩=some (.int .i64 (ns[j] : Int)):=by
 rcases h.2 with ⟨hv,h0⟩ | ⟨g,cap,cur,hv,_⟩
 ·exact⟨none,0,by rw[hv,h0],fun j hj=>by omega⟩
 ·refine⟨_,cap,hv,fun j hj=>⟨g,rfl,?_⟩⟩
  have:=World.ownsRow.cells (g:=g) (show w.ownsRow B 3 1 v ns.length (ns.map fun (n:Nat)=>Value.int .i64 (n:Int)) from h) (by rw[hv]; rfl) j (.int .i64 (ns[j] : Int)) (by rw[List.getElem?_map,List.getElem?_eq_getElem hj]; rfl)
  rw[Go.WideShapes.add_plain] at this
  simpa using this
def Asc (m:Nat) : Nat→List Nat→Nat→Prop
 | f,[],e=>f≤e
 | f,c :: r,e=>f≤c∧Asc m (c+m) r e
theorem Asc.le {m:Nat} : ∀ {ns:List Nat} {f e:Nat},Asc m f ns e→f≤e
 | [],_,_,h=>h
 | c :: r,f,e,h=>by have:=h.2.le; have:=h.1; omega
theorem Asc.len {m:Nat} (hm:1≤m) : ∀ {ns:List Nat} {f e:Nat},Asc m f ns e→f+ns.length≤e
 | [],_,_,h=>h
 | c :: r,f,e,h=>by have:=Asc.len hm h.2; have:=h.1; rw[List.length_cons]; omega
theorem oneS (b:ByteArray) : ∀ u∈[Value.string b],u.oneCell'=true:=by intro u hu; simp at hu; subst hu; rfl
theorem tps_asc (w:UInt8) (ws:Bs) : ∀ (n:Nat) (l:Bs),l.length≤n→∀ (o:Int) (i f:Nat),f≤i→Asc (ws.length+1) f (tps w ws o i l) (i+l.length)
 | n,[],_,o,i,f,hf=>by rw[tps_nil]; exact hf
 | 0,c :: r,h,_,_,_,_=>by simp at h
 | n+1,c :: r,h,o,i,f,hf=>by
  have hr:r.length≤n:=by simp at h; omega
  by_cases hh:o=0∧(w :: ws).isPrefixOf (c :: r)=true
  ·obtain⟨rfl,hp⟩:=hh
   rw[tps_hit hp]
   refine⟨hf,?_⟩
   have hl:=(List.isPrefixOf_iff_prefix.1 hp).length_le
   rw[List.length_cons,List.length_cons] at hl
   have:=tps_asc w ws n (r.drop ws.length) (by rw[List.length_drop]; omega) 0 (i+(ws.length+1)) (i+(ws.length+1)) (Nat.le_refl _)
   rw[List.length_drop] at this
   rw[List.length_cons,show i+(r.length+1)=i+(ws.length+1)+(r.length - ws.length) by omega]
   exact this
  ·by_cases hc:c=39
   ·subst hc
    rw[tps_39 hh]
    cases e:sE r with
    | none=>show f≤_; omega
    | some t=>
     have hlt:=sE_len e
     have:=tps_asc w ws n t (by omega) o (i+(r.length+1 - t.length)) f (by omega)
     rw[List.length_cons,show i+(r.length+1)=i+(r.length+1 - t.length)+t.length by omega]
     exact this
   ·rw[tps_chr hh hc]
    have:=tps_asc w ws n r hr (brkO o c) (i+1) f (by omega)
    rw[List.length_cons,show i+(r.length+1)=i+1+r.length by omega]
    exact this
theorem ext_bs (s:ByteArray) (i j:Nat) : s.extract i j=bsT ((s.data.toList.drop i).take (j - i)):=by
 rw[← Lib.extract_data]; rfl
theorem split2_walk (s t:ByteArray) (c:UInt8) (ws:Bs) (w:World) (hs:s.size≤1048576) (ht:t.data.toList=c :: ws) (hts:t.size≤10) :
  Calls Tryz.prog 42 #[.string s,.string t] w fun e w'=>∃ v,e = .returned v∧TS w' w.heap.size v (spl c ws 0 [] s.data.toList)∧Below w.heap.size w w':=by
 obtain⟨i0,hi,hz0,hz1,hz2⟩:=info_parts infoSt1
 have HT:Hid (∀ w,Calls Tryz.prog 64 #[.string s,.string t] w fun e w'=>∃ v,e = .returned v∧TI w' w.heap.size v (tps c ws 0 0 s.data.toList)∧Below w.heap.size w w'):=fun w=>tops_walk s t c ws w hs ht hts
 have htl:t.size=ws.length+1:=by rw[← data_len,ht]; rfl
 have HAsc:Hid (Asc t.size 0 (tps c ws 0 0 s.data.toList) s.size):=by
  have:=tps_asc c ws s.data.toList.length s.data.toList (Nat.le_refl _) 0 0 0 (Nat.le_refl _)
  rw[Nat.zero_add,data_len] at this
  rw[htl]; exact this
 have HR:Hid (cutL s.data.toList t.size 0 (tps c ws 0 0 s.data.toList)=spl c ws 0 [] s.data.toList):=by show _=_; rw[htl]; exact (spl_cut c ws s.data.toList).symm
 generalize spl c ws 0 [] s.data.toList=R at *
 generalize tps c ws 0 0 s.data.toList=ns at *
 have ht1:1≤t.size:=by omega
 clear ht htl
 go_enter Tryz.func42,Tryz.ntmps42
 go_wp2_with fail
 refine (uh HT _).mono ?_
 rintro e w1 ⟨cv,rfl,hti,b1⟩
 clear HT
 have hown0:w1.ownsRow w.heap.size 9 1 (.slice (some ⟨w.heap.size,0,none⟩) 0 0) 0 []:=own_below (World.ownsRow_lit w #[] 0 (Nat.le_refl _) (by unfold maxLen; omega) rfl) b1
 have hb0:Below w.heap.size w w1:=((Below.refl _ _).alloc (Nat.le_refl _) _).trans (b1.mono (by simp))
 have hti0:=own_mono hti (B':=w.heap.size) (by simp)
 obtain⟨cb,ccap,hcv,-⟩:=hti.cells
 subst hcv
 have hlen:ns.length≤1048576:=by have:=Asc.len ht1 (uh HAsc); omega
 have HO0:=hide hown0
 have HB0:=hide hb0
 have HTI0:=hide hti0
 clear hown0 hb0 hti0 hti b1
 go_wp2
 go_loopw [5,6,8] (fun v fv iv wr=>∃ (k f:Nat) (ts:List Bs),k≤ns.length∧ts.length≤k∧fv = .int .i64 (f:Int)∧iv = .int .i64 (k:Int)∧Hid (Asc t.size f (ns.drop k) s.size)∧Hid (ts++cutL s.data.toList t.size f (ns.drop k)=R)∧Hid (TI wr w.heap.size (.slice cb ns.length ccap) ns)∧Hid (TS wr w.heap.size v ts)∧Below w.heap.size w wr) (fun _ _ iv _=>ns.length - (intOf iv).toNat)
 case atStart=>exact⟨0,0,[],by omega,by simp,rfl,rfl,HAsc,HR,HTI0,HO0,uh HB0⟩
 case round=>
  obtain⟨k,f,ts,hk,hts2,rfl,rfl,hasc,hd,hti,hown,hb⟩:=hrel
  clear HO0 HB0 HTI0 HAsc HR
  have hwsz:=hb.size
  have HB:=hide hb
  clear hb
  by_cases hlt:k < ns.length
  ·have hltI:(k:Int) < (ns.length:Int):=by omega
   have hdr:ns.drop k=ns[k] :: ns.drop (k+1):=by rw[← List.getElem_cons_drop (h:=hlt)]
   rw[hdr] at hasc hd
   have ha:=uh hasc
   have ha1:f≤ns[k]:=ha.1
   have ha2:ns[k]+t.size≤s.size:=Asc.le ha.2
   have HA:=hide ha.2
   have HN:Hid ((ts++[(s.data.toList.drop f).take (ns[k] - f)])++cutL s.data.toList t.size (ns[k]+t.size) (ns.drop (k+1))=R):=by
    show _=_
    rw[← uh hd,cutL]; simp
   obtain⟨cb',ccap',hcv,hcell⟩:=TI.cells (uh hti)
   obtain⟨g,hg,hc⟩:=hcell k hlt
   have hcb:cb=some ⟨g,0,none⟩:=by injection hcv with h1 _ _; rw[h1]; exact hg
   subst hcb
   clear hcell hcv hg hdr hasc hd ha
   generalize hq:ns[k]=q at *
   have i1:(f:Int)≤(q:Int):=by omega
   have i2:(q:Int)≤(s.size:Int):=by omega
   have i3:(0:Int)≤(f:Int):=by omega
   go_wp2_with (at_builtin; refine wpList_append_own _ rfl (.tmp 19) (.tmp 27) 93 rfl w.heap.size 9 i0 (.string ByteArray.empty) 1 16 Tryz.underlying93 hi hz0 hz1 hz2 rfl (by decide) _ _ _ rfl ((uh hown).alloc _) ⟨wr.heap.size,0,none⟩ 1 1 [.string (s.extract f q)] rfl rfl (lit1 _ _ _) (oneS _) (by unfold maxLen; omega) (by omega) (by simp; omega) ?_)
   intro v2 w2 hown2 hgrow2 _
   have hti2:TI w2 w.heap.size (.slice (some ⟨g,0,none⟩) ns.length ccap) ns:=own_other ((uh hti).alloc _) ((uh hown).alloc _) (by decide) hgrow2
   have HB2:Hid (Below w.heap.size w w2):=((uh HB).alloc hwsz _).grown hgrow2 (by simp; omega) (fun k hk=>((uh hown).lt k hk).1)
   rw[ext_bs] at hown2
   have HO2:Hid (TS w2 w.heap.size v2 (ts++[(s.data.toList.drop f).take (q - f)])):=TS.snoc hown2
   obtain⟨cb',ccap',hcv,hcell⟩:=TI.cells hti2
   obtain⟨g',hg,hc2⟩:=hcell k hlt
   have hgg:g=g':=by injection hcv with h1 _ _; rw[← h1] at hg; injection hg with hg; injection hg
   subst hgg
   rw[hq] at hc2
   have HTI2:=hide hti2
   clear hown2 hgrow2 hown HB hti hti2 hcell hcv hg hc
   go_wp2
   go_roundw
   case rel=>exact⟨k+1,q+t.size,_,by omega,by simp; omega,by go_num,by go_num,HA,HN,HTI2,HO2,uh HB2⟩
   case measure=>simp[intOf]; omega
  ·obtain rfl:k=ns.length:=by omega
   have hf:=Asc.le (uh hasc)
   have HN:Hid (ts++[(s.data.toList.drop f).take (s.size - f)]=R):=by
    show _=_
    rw[← uh hd,List.drop_of_length_le (Nat.le_refl _),cutL,List.take_of_length_le (by rw[List.length_drop,data_len]; exact Nat.le_refl _)]
   clear hasc hd hti
   have i2:(f:Int)≤(s.size:Int):=by omega
   go_wp2_with (at_builtin; refine wpList_append_own _ rfl (.tmp 36) (.tmp 40) 93 rfl w.heap.size 9 i0 (.string ByteArray.empty) 1 16 Tryz.underlying93 hi hz0 hz1 hz2 rfl (by decide) _ _ _ rfl ((uh hown).alloc _) ⟨wr.heap.size,0,none⟩ 1 1 [.string (s.extract f s.size)] rfl rfl (lit1 _ _ _) (oneS _) (by unfold maxLen; omega) (by omega) (by simp; omega) ?_)
   intro v2 w2 hown2 hgrow2 _
   have HB2:Hid (Below w.heap.size w w2):=((uh HB).alloc hwsz _).grown hgrow2 (by simp; omega) (fun k hk=>((uh hown).lt k hk).1)
   rw[ext_bs] at hown2
   have HO2:Hid (TS w2 w.heap.size v2 (ts++[(s.data.toList.drop f).take (s.size - f)])):=TS.snoc hown2
   clear hown2 hgrow2 hown HB
   rw[uh HN] at HO2
   go_wp2
   go_ret
   exact⟨_,rfl,uh HO2,uh HB2⟩
def sgC:Nat→UInt8
 | 0=>61
 | 1=>33
 | 2=>60
 | _=>62
def sgT:Nat→Bs
 | 0=>[61]
 | 1=>[61]
 | _=>[]
def cmUp (l:Bs) : Nat→Option Nat
 | 0=>none
 | k+1=>minO (cmUp l k) (fT (sgC k) (sgT k) 0 0 l)
theorem cmUp_all (l:Bs) : cmUp l 4=fCmp l:=rfl
theorem minO_none (a:Option Nat) : minO a none=a:=by cases a <;> rfl
theorem sg_cell (w:World) (t:TypeId) {k:Nat} (hk:k < 4) : (w.alloc (.cells #[.string ⟨#[61,61]⟩,.string ⟨#[33,61]⟩,.string ⟨#[60]⟩,.string ⟨#[62]⟩] t)).cell? ⟨w.heap.size,k,none⟩=some (.string (bsT (sgC k :: sgT k))):=by
 rw[Lib.cell_of_heap (heap_alloc_new w _)]
 match k,hk with
 | 0,_=>rfl
 | 1,_=>rfl
 | 2,_=>rfl
 | 3,_=>rfl
theorem sgT_len (k:Nat) : (bsT (sgC k :: sgT k)).size≤10:=by
 have e:(bsT (sgC k :: sgT k)).size=(sgT k).length+1:=by simp[bsT,ByteArray.size]
 rw[e]
 match k with
 | 0=>decide
 | 1=>decide
 | k+2=>show 0+1≤10; omega
theorem comp_walk (s:ByteArray) (w:World) (hs:s.size≤1048576) :
  Calls Tryz.prog 107 #[.string s] w fun e w'=>e = .returned (.int .i64 (natO (fCmp s.data.toList)))∧Below w.heap.size w w':=by
 have HT:Hid (∀ k w,Calls Tryz.prog 64 #[.string s,.string (bsT (sgC k :: sgT k))] w fun e w'=>∃ v,e = .returned v∧TI w' w.heap.size v (tps (sgC k) (sgT k) 0 0 s.data.toList)∧Below w.heap.size w w'):=fun k w=>tops_walk s _ _ _ w hs rfl (sgT_len k)
 have HC:Hid (∀ k,k < 4→∀ t,(w.alloc (.cells #[.string ⟨#[61,61]⟩,.string ⟨#[33,61]⟩,.string ⟨#[60]⟩,.string ⟨#[62]⟩] t)).cell? ⟨w.heap.size,k,none⟩=some (.string (bsT (sgC k :: sgT k)))):=fun k hk t=>sg_cell w t hk
 go_enter Tryz.func107,Tryz.ntmps107
 go_wp2
 go_loopw [3,5] (fun bv iv wr=>∃ k:Nat,k≤4∧bv = .int .i64 (natO (cmUp s.data.toList k))∧iv = .int .i64 (k:Int)∧Below (w.heap.size+1) (w.alloc (.cells #[.string ⟨#[61,61]⟩,.string ⟨#[33,61]⟩,.string ⟨#[60]⟩,.string ⟨#[62]⟩] 9)) wr) (fun _ iv _=>4 - (intOf iv).toNat)
 case atStart=>exact⟨0,by omega,rfl,rfl,Below.refl _ _⟩
 case round=>
  obtain⟨k,hk,rfl,rfl,hb⟩:=hrel
  have HB:=hide hb
  by_cases hlt:k < 4
  ·have hltI:(k:Int) < 4:=by omega
   have hc:wr.cell? ⟨w.heap.size,k,none⟩=some (.string (bsT (sgC k :: sgT k))):=(hb.cell (by show w.heap.size < w.heap.size+1; omega)).trans (uh HC k hlt _)
   have hwsz:w.heap.size+1≤wr.heap.size:=by have:=hb.size; simpa using this
   have HTk:=hide (uh HT k wr)
   have HF:Hid (fT (sgC k) (sgT k) 0 0 s.data.toList=(tps (sgC k) (sgT k) 0 0 s.data.toList).head?):=fT_tps _ _ _ _ (Nat.le_refl _) 0 0
   have HU:Hid (cmUp s.data.toList (k+1)=minO (cmUp s.data.toList k) (fT (sgC k) (sgT k) 0 0 s.data.toList)):=rfl
   clear hb HC HT
   go_wp2_with fail
   refine (uh HTk).mono ?_
   rintro e w2 ⟨v,rfl,hti,b2⟩
   have HB2:Hid (Below (w.heap.size+1) (w.alloc (.cells #[.string ⟨#[61,61]⟩,.string ⟨#[33,61]⟩,.string ⟨#[60]⟩,.string ⟨#[62]⟩] 9)) w2):=(uh HB).trans (b2.mono hwsz)
   obtain⟨cb,ccap,rfl,hcell⟩:=TI.cells hti
   clear HTk HB b2 hti
   generalize tps (sgC k) (sgT k) 0 0 s.data.toList=ns at *
   cases ns with
   | nil=>
    have HN:Hid (cmUp s.data.toList (k+1)=cmUp s.data.toList k):=by show _=_; rw[uh HU,uh HF]; exact minO_none _
    clear hcell HU HF
    generalize cmUp s.data.toList k=X at *
    go_wp2
    go_roundw
    case rel=>exact⟨k+1,by omega,by rw[uh HN],by go_num,uh HB2⟩
    case measure=>simp[intOf]; omega
   | cons n r=>
    obtain⟨g,rfl,hc0⟩:=hcell 0 (by simp)
    have hc1:w2.cell? ⟨g,0,none⟩=some (.int .i64 (n:Int)):=hc0
    have hl0:(0:Int) < (((n :: r).length:Nat) : Int):=by simp
    have HF2:Hid (fT (sgC k) (sgT k) 0 0 s.data.toList=some n):=uh HF
    clear hcell hc0 HF
    generalize (n :: r).length=len at *
    cases hX:cmUp s.data.toList k with
    | none=>
     have HN:Hid (cmUp s.data.toList (k+1)=some n):=by show _=_; rw[uh HU,uh HF2,hX]; rfl
     clear HU HF2 hX
     go_wp2
     go_roundw
     case rel=>exact⟨k+1,by omega,by rw[uh HN]; rfl,by go_num,uh HB2⟩
     case measure=>simp[intOf]; omega
    | some m=>
     have hm0:¬ (m:Int) < 0:=by omega
     have hnat:natO (some m)=(m:Int):=rfl
     by_cases hnm:n < m
     ·have hnmI:(n:Int) < (m:Int):=by omega
      have HN:Hid (cmUp s.data.toList (k+1)=some n):=by show _=_; rw[uh HU,uh HF2,hX]; show some (if n < m then n else m)=_; rw[if_pos hnm]
      clear HU HF2 hX
      go_wp2
      go_roundw
      case rel=>exact⟨k+1,by omega,by rw[uh HN]; rfl,by go_num,uh HB2⟩
      case measure=>simp[intOf]; omega
     ·have hnmI:¬ (n:Int) < (m:Int):=by omega
      have HN:Hid (cmUp s.data.toList (k+1)=some m):=by show _=_; rw[uh HU,uh HF2,hX]; show some (if n < m then n else m)=_; rw[if_neg hnm]
      clear HU HF2 hX
      go_wp2
      go_roundw
      case rel=>exact⟨k+1,by omega,by rw[uh HN]; rfl,by go_num,uh HB2⟩
      case measure=>simp[intOf]; omega
  ·obtain rfl:k=4:=by omega
   have HBF:Hid (Below w.heap.size w wr):=((Below.refl _ _).alloc (Nat.le_refl _) _).trans (hb.mono (by omega))
   have HQ:=hide (cmUp_all s.data.toList)
   clear HC HT HB hb
   go_wp2
   go_ret
   exact⟨by rw[← uh HQ]; rfl,uh HBF⟩
def cwC:Nat→UInt8
 | 0=>61
 | 1=>33
 | 2=>60
 | 3=>62
 | 4=>60
 | _=>62
def cwT:Nat→Bs
 | 4=>[]
 | 5=>[]
 | _=>[61]
def cwN:Nat→Int
 | 0=>1
 | 1=>2
 | 2=>4
 | 3=>6
 | 4=>3
 | _=>5
theorem pf_one {c d:UInt8} {r:Bs} : ([c] : Bs).isPrefixOf (d :: r)=(c == d):=by simp[List.isPrefixOf]
theorem pf_two {c d a b:UInt8} {r:Bs} : ([c,d] : Bs).isPrefixOf (a :: b :: r)=(c == a && d == b):=by simp[List.isPrefixOf]
theorem cmp_hit {l:Bs} {k:Nat} (hk:k < 6) (h:(cwC k :: cwT k).isPrefixOf l=true) (hno:∀ j,j < k→(cwC j :: cwT j).isPrefixOf l=false) : pCmp l=some (cwN k,l.drop ((cwT k).length+1)):=by
 have n2:2 < k→([60,61] : Bs).isPrefixOf l=false:=fun hh=>hno 2 hh
 have n3:3 < k→([62,61] : Bs).isPrefixOf l=false:=fun hh=>hno 3 hh
 clear hno
 match k,hk,h,n2,n3 with
 | 0,_,h,_,_=>
  obtain⟨q,hq⟩:=List.isPrefixOf_iff_prefix.1 h
  rw[← hq]; rfl
 | 1,_,h,_,_=>
  obtain⟨q,hq⟩:=List.isPrefixOf_iff_prefix.1 h
  rw[← hq]; rfl
 | 2,_,h,_,_=>
  obtain⟨q,hq⟩:=List.isPrefixOf_iff_prefix.1 h
  rw[← hq]; rfl
 | 3,_,h,_,_=>
  obtain⟨q,hq⟩:=List.isPrefixOf_iff_prefix.1 h
  rw[← hq]; rfl
 | 4,_,h,n2,_=>
  obtain⟨q,hq⟩:=List.isPrefixOf_iff_prefix.1 h
  have n:=n2 (by omega)
  rw[← hq] at n ⊢
  cases q with
  | nil=>rfl
  | cons d q=>
   have hd:¬ d=61:=by rintro rfl; exact absurd n (by show ¬ ([60,61] : Bs).isPrefixOf (60 :: 61 :: q)=false; rw[pf_two]; decide)
   show (if d=61 then some ((4:Int),q) else some (3,d :: q))=some ((3:Int),d :: q)
   rw[if_neg hd]
 | 5,_,h,_,n3=>
  obtain⟨q,hq⟩:=List.isPrefixOf_iff_prefix.1 h
  have n:=n3 (by omega)
  rw[← hq] at n ⊢
  cases q with
  | nil=>rfl
  | cons d q=>
   have hd:¬ d=61:=by rintro rfl; exact absurd n (by show ¬ ([62,61] : Bs).isPrefixOf (62 :: 61 :: q)=false; rw[pf_two]; decide)
   show (if d=61 then some ((6:Int),q) else some (5,d :: q))=some ((5:Int),d :: q)
   rw[if_neg hd]
theorem cmp_none {l:Bs} (hno:∀ j,j < 6→(cwC j :: cwT j).isPrefixOf l=false) : pCmp l=none:=by
 cases h:pCmp l with
 | none=>rfl
 | some p=>
  exfalso
  obtain⟨n,u⟩:=p
  obtain⟨c,r,rfl,hc,-⟩:=pCmp_hd h
  have h4:¬ c=60:=by rintro rfl; exact absurd (hno 4 (by omega)) (by show ¬ ([60] : Bs).isPrefixOf (60 :: r)=false; rw[pf_one]; decide)
  have h5:¬ c=62:=by rintro rfl; exact absurd (hno 5 (by omega)) (by show ¬ ([62] : Bs).isPrefixOf (62 :: r)=false; rw[pf_one]; decide)
  unfold isCm at hc
  simp only[Bool.or_eq_true,beq_iff_eq] at hc
  rcases hc with ((rfl | rfl) | rfl) | rfl
  ·cases r with
   | nil=>cases h
   | cons d q=>
    have hd:¬ d=61:=by rintro rfl; exact absurd (hno 0 (by omega)) (by show ¬ ([61,61] : Bs).isPrefixOf (61 :: 61 :: q)=false; rw[pf_two]; decide)
    have h6:(if d=61 then some ((1:Int),q) else none)=some (n,u):=h
    rw[if_neg hd] at h6; cases h6
  ·cases r with
   | nil=>cases h
   | cons d q=>
    have hd:¬ d=61:=by rintro rfl; exact absurd (hno 1 (by omega)) (by show ¬ ([33,61] : Bs).isPrefixOf (33 :: 61 :: q)=false; rw[pf_two]; decide)
    have h6:(if d=61 then some ((2:Int),q) else none)=some (n,u):=h
    rw[if_neg hd] at h6; cases h6
  ·exact h4 rfl
  ·exact h5 rfl
theorem cw_cell (w:World) (t:TypeId) {k:Nat} (hk:k < 6) : (w.alloc (.cells #[.string ⟨#[61,61]⟩,.string ⟨#[33,61]⟩,.string ⟨#[60,61]⟩,.string ⟨#[62,61]⟩,.string ⟨#[60]⟩,.string ⟨#[62]⟩] t)).cell? ⟨w.heap.size,k,none⟩=some (.string (bsT (cwC k :: cwT k))):=by
 rw[Lib.cell_of_heap (heap_alloc_new w _)]
 match k,hk with
 | 0,_=>rfl
 | 1,_=>rfl
 | 2,_=>rfl
 | 3,_=>rfl
 | 4,_=>rfl
 | 5,_=>rfl
theorem cn_cell (w:World) (t:TypeId) {k:Nat} (hk:k < 6) : (w.alloc (.cells #[.int .i64 1,.int .i64 2,.int .i64 4,.int .i64 6,.int .i64 3,.int .i64 5] t)).cell? ⟨w.heap.size,k,none⟩=some (.int .i64 (cwN k)):=by
 rw[Lib.cell_of_heap (heap_alloc_new w _)]
 match k,hk with
 | 0,_=>rfl
 | 1,_=>rfl
 | 2,_=>rfl
 | 3,_=>rfl
 | 4,_=>rfl
 | 5,_=>rfl
theorem cw_size (k:Nat) : (bsT (cwC k :: cwT k)).size=(cwT k).length+1:=by simp[bsT,ByteArray.size]
theorem cwT_len (k:Nat) : (cwT k).length≤1:=by
 unfold cwT
 split <;> simp
def cmV (l:Bs) (o:Option (Int×Bs)) : Value:=match o with
 | none=>.tuple #[.int .i64 0,.int .i64 0]
 | some (n,u)=>.tuple #[.int .i64 n,.int .i64 ((l.length - u.length:Nat) : Int)]
theorem compAt_walk (s:ByteArray) (i:Nat) (w:World) (hs:s.size≤1048576) (hi:i≤s.size) :
  Calls Tryz.prog 109 #[.string s,.int .i64 (i:Int)] w fun e w'=>e = .returned (cmV (dr s i) (pCmp (dr s i)))∧Below w.heap.size w w':=by
 have HW:Hid (∀ k w,Calls Tryz.prog 40 #[.string s,.int .i64 (i:Int),.string (bsT (cwC k :: cwT k))] w fun e w'=>e = .returned (.bool ((cwC k :: cwT k).isPrefixOf (dr s i)))∧w=w'):=fun k w=>wordB_walk s _ i w hs (by rw[cw_size]; have:=cwT_len k; omega) hi
 generalize hw1:w.alloc (.cells #[.string ⟨#[61,61]⟩,.string ⟨#[33,61]⟩,.string ⟨#[60,61]⟩,.string ⟨#[62,61]⟩,.string ⟨#[60]⟩,.string ⟨#[62]⟩] 9)=w1
 have hz1:w1.heap.size=w.heap.size+1:=by rw[← hw1]; simp
 have hc1:∀ k,k < 6→w1.cell? ⟨w.heap.size,k,none⟩=some (.string (bsT (cwC k :: cwT k))):=fun k hk=>by rw[← hw1]; exact cw_cell w _ hk
 have hB1:Below w.heap.size w w1:=by rw[← hw1]; exact (Below.refl _ _).alloc (Nat.le_refl _) _
 generalize hw2:w1.alloc (.cells #[.int .i64 1,.int .i64 2,.int .i64 4,.int .i64 6,.int .i64 3,.int .i64 5] 3)=w2
 have hB2:Below w1.heap.size w1 w2:=by rw[← hw2]; exact (Below.refl _ _).alloc (Nat.le_refl _) _
 have HC2:Hid (∀ k,k < 6→w2.cell? ⟨w1.heap.size,k,none⟩=some (.int .i64 (cwN k))):=fun k hk=>by rw[← hw2]; exact cn_cell w1 _ hk
 have HC1:Hid (∀ k,k < 6→w2.cell? ⟨w.heap.size,k,none⟩=some (.string (bsT (cwC k :: cwT k)))):=fun k hk=>(hB2.cell (by show w.heap.size < _; omega)).trans (hc1 k hk)
 have HB:=hide (below_next hB1 hB2)
 have HZ1:=hide hz1
 have HW1:=hide hw1
 have HW2:=hide hw2
 clear hw1 hw2 hz1 hc1 hB1 hB2
 go_enter Tryz.func109,Tryz.ntmps109
 go_wp2
 rw[uh HW1,uh HW2,← uh HZ1]
 clear HW1 HW2 HZ1
 generalize w1.heap.size=g2 at *
 go_loopw [8] (fun iv wr=>∃ k:Nat,k≤6∧iv = .int .i64 (k:Int)∧w2=wr∧Hid (∀ j,j < k→(cwC j :: cwT j).isPrefixOf (dr s i)=false)) (fun iv _=>6 - (intOf iv).toNat)
 case atStart=>exact⟨0,by omega,rfl,rfl,fun j hj=>by omega⟩
 case round=>
  obtain⟨k,hk,rfl,rfl,hno⟩:=hrel
  by_cases hlt:k < 6
  ·have hltI:(k:Int) < 6:=by omega
   have hc1:=uh HC1 k hlt
   have hc2:=uh HC2 k hlt
   have HWk:=hide (uh HW k w2)
   clear HC1 HC2 HW
   cases hp:(cwC k :: cwT k).isPrefixOf (dr s i) with
   | true=>
    rw[hp] at HWk
    have hle:(cwT k).length+1≤(dr s i).length:=by
     have:=(List.isPrefixOf_iff_prefix.1 hp).length_le
     rw[List.length_cons] at this
     exact this
    have HV:Hid (cmV (dr s i) (pCmp (dr s i)) = .tuple #[.int .i64 (cwN k),.int .i64 (((bsT (cwC k :: cwT k)).size:Nat) : Int)]):=by
     show _=_
     rw[cmp_hit hlt hp (uh hno),cw_size]
     show Value.tuple #[.int .i64 (cwN k),.int .i64 (((dr s i).length - ((dr s i).drop ((cwT k).length+1)).length:Nat) : Int)]=_
     rw[List.length_drop,show (dr s i).length - ((dr s i).length - ((cwT k).length+1))=(cwT k).length+1 by omega]
    clear hno hp hle
    generalize cwN k=N at *
    generalize bsT (cwC k :: cwT k)=T at *
    go_wp2_with fail
    refine (uh HWk).mono ?_
    rintro e w3 ⟨rfl,rfl⟩
    clear HWk
    go_wp2
    go_quiet (fail)
    go_wp2
    go_ret2
    exact⟨by rw[uh HV]; rfl,(uh HB).trans ⟨rfl,rfl,rfl,Nat.le_refl _,fun _ _=>rfl⟩⟩
   | false=>
    rw[hp] at HWk
    have HN:Hid (∀ j,j < k+1→(cwC j :: cwT j).isPrefixOf (dr s i)=false):=fun j hj=>by
     by_cases e:j=k
     ·subst e; exact hp
     ·exact uh hno j (by omega)
    clear hno hp
    generalize bsT (cwC k :: cwT k)=T at *
    go_wp2_with fail
    refine (uh HWk).mono ?_
    rintro e w3 ⟨rfl,rfl⟩
    clear HWk
    go_wp2
    go_roundw
    case rel=>exact⟨k+1,by omega,by go_num,trivial,HN⟩
    case measure=>simp[intOf]; omega
  ·obtain rfl:k=6:=by omega
   have HV:Hid (cmV (dr s i) (pCmp (dr s i)) = .tuple #[.int .i64 0,.int .i64 0]):=by show _=_; rw[cmp_none (uh hno)]; rfl
   clear HC1 HC2 HW hno
   go_wp2
   go_ret2
   exact⟨by rw[uh HV]; rfl,uh HB⟩
theorem clo_le:∀ (n:Nat) (l:Bs),l.length≤n→∀ (o:Int) (i m:Nat),clo o i l=some m→i < m∧m≤i+l.length
 | n,[],_,o,i,m,h=>by rw[clo_nil] at h; cases h
 | 0,c :: r,hl,_,_,_,_=>by simp at hl
 | n+1,c :: r,hl,o,i,m,h=>by
  have hr:r.length≤n:=by simp at hl; omega
  rw[List.length_cons]
  by_cases hc:c=39
  ·subst hc
   rw[clo_39] at h
   cases e:sE r with
   | none=>rw[e] at h; cases h
   | some t=>
    rw[e] at h
    have hlt:=sE_len e
    have:=clo_le n t (by omega) o _ m h
    omega
  ·by_cases h0:brkO o c=0
   ·rw[clo_hit hc h0] at h
    injection h with h
    omega
   ·rw[clo_chr hc h0] at h
    have:=clo_le n r hr (brkO o c) (i+1) m h
    omega
def RefUp (s:ByteArray) (R:Option (List PStep)) (k:Nat) (acc:List PStep) : Prop:=∃ n,(dr s k).length < n∧R=(sSteps n (dr s k)).map (acc++·)
def twS (s:ByteArray) (k:Nat) : Bs:=(dr s k).takeWhile fun d=>!isStop d
theorem RefUp.fin {s:ByteArray} {R:Option (List PStep)} {k:Nat} {acc:List PStep} (h:RefUp s R k acc) (hk:s.size≤k) : R=some acc:=by
 obtain⟨n,hn,hR⟩:=h
 obtain⟨m,rfl⟩ : ∃ m,n=m+1:=⟨n - 1,by omega⟩
 rw[hR,dr_end hk,sSteps_nil]; simp
theorem RefUp.dotNo {s:ByteArray} {R:Option (List PStep)} {k:Nat} {acc:List PStep} (h:RefUp s R k acc) (hk:k < s.size) (hc:s[k]=46) (hb:sName (twS s (k+1))=false) : R=none:=by
 obtain⟨n,hn,hR⟩:=h
 obtain⟨m,rfl⟩ : ∃ m,n=m+1:=⟨n - 1,by omega⟩
 rw[hR,dr_at hk,sSteps_con,if_pos hc,if_neg (by unfold twS at hb; rw[hb]; decide)]; rfl
theorem RefUp.dot {s:ByteArray} {R:Option (List PStep)} {k:Nat} {acc:List PStep} (h:RefUp s R k acc) (hk:k < s.size) (hc:s[k]=46) (hb:sName (twS s (k+1))=true) : RefUp s R (k+1+(twS s (k+1)).length) (acc++[stName (twS s (k+1))]):=by
 obtain⟨n,hn,hR⟩:=h
 obtain⟨m,rfl⟩ : ∃ m,n=m+1:=⟨n - 1,by omega⟩
 refine⟨m,?_,?_⟩
 ·rw[dr_len] at hn ⊢; omega
 ·rw[hR,dr_at hk,sSteps_con,if_pos hc,if_pos (by unfold twS at hb; exact hb)]
  rw[← dr_dr s (k+1) (twS s (k+1)).length]
  show Option.map _ (Option.map _ (sSteps m ((dr s (k+1)).drop (twS s (k+1)).length)))=_
  cases sSteps m ((dr s (k+1)).drop (twS s (k+1)).length) <;> simp[twS]
theorem RefUp.other {s:ByteArray} {R:Option (List PStep)} {k:Nat} {acc:List PStep} (h:RefUp s R k acc) (hk:k < s.size) (h1:¬ s[k]=46) (h2:¬ s[k]=91) : R=none:=by
 obtain⟨n,hn,hR⟩:=h
 obtain⟨m,rfl⟩ : ∃ m,n=m+1:=⟨n - 1,by omega⟩
 rw[hR,dr_at hk,sSteps_con,if_neg h1,if_neg h2]; rfl
def inS (s:ByteArray) (k m:Nat) : Bs:=(dr s (k+1)).take (m - 2)
theorem RefUp.brNo {s:ByteArray} {R:Option (List PStep)} {k:Nat} {acc:List PStep} (h:RefUp s R k acc) (hk:k < s.size) (hc:s[k]=91) (hb:natO (clo 0 0 (dr s k)) < 2) : R=none:=by
 obtain⟨n,hn,hR⟩:=h
 obtain⟨m,rfl⟩ : ∃ m,n=m+1:=⟨n - 1,by omega⟩
 rw[dr_at hk] at hb
 rw[hR,dr_at hk,sSteps_con,if_neg (by rw[hc]; decide),if_pos hc]
 cases e:clo 0 0 (s[k] :: dr s (k+1)) with
 | none=>rfl
 | some q=>
  rw[e] at hb
  have hb':(q:Int) < 2:=hb
  simp only
  rw[if_pos (by omega)]; rfl
theorem RefUp.br {s:ByteArray} {R:Option (List PStep)} {k:Nat} {acc:List PStep} (h:RefUp s R k acc) (hk:k < s.size) (hc:s[k]=91) {q:Nat} (hq:clo 0 0 (dr s k)=some q) (h2:2≤q) : k+q≤s.size∧((∀ hx:k+q - 1 < s.size,¬ s[k+q - 1]=93)→R=none)∧(sIn (inS s k q)=none→R=none)∧(∀ x,(∀ hx:k+q - 1 < s.size,s[k+q - 1]=93)→sIn (inS s k q)=some x→RefUp s R (k+q) (acc++[x])):=by
 obtain⟨n,hn,hR⟩:=h
 obtain⟨m,rfl⟩ : ∃ m,n=m+1:=⟨n - 1,by omega⟩
 have hle:=clo_le _ _ (Nat.le_refl _) 0 0 q hq
 rw[dr_len] at hle
 have hkq:k+q≤s.size:=by omega
 have hx:k+q - 1 < s.size:=by omega
 have hhd:((dr s k).drop (q - 1)).head?=some s[k+q - 1]:=by
  rw[dr_dr,show k+(q - 1)=k+q - 1 by omega,dr_at hx]; rfl
 have htk:((dr s k).drop 1).take (q - 2)=inS s k q:=by rw[dr_dr]; rfl
 have e0:sSteps (m+1) (dr s k)=if ((dr s k).drop (q - 1)).head?≠some 93 then none else match sIn (((dr s k).drop 1).take (q - 2)) with
   | none=>none
   | some x=>(sSteps m ((dr s k).drop q)).map fun p=>x :: p:=by
  have e1:=sSteps_con m s[k] (dr s (k+1))
  rw[if_neg (by rw[hc]; decide),if_pos hc,← dr_at hk,hq] at e1
  simp only at e1
  rw[if_neg (by omega)] at e1
  exact e1
 rw[hhd,htk,dr_dr] at e0
 refine⟨hkq,fun hno=>?_,fun hno=>?_,fun x hyes hin=>?_⟩
 ·rw[hR,e0,if_pos (by intro e; injection e with e; exact hno hx e)]; rfl
 ·rw[hR,e0,hno]; split <;> rfl
 ·refine⟨m,by rw[dr_len] at hn ⊢; omega,?_⟩
  rw[hR,e0,if_neg (by rw[hyes hx]; simp),hin]
  simp only
  cases sSteps m (dr s (k+q)) <;> simp
theorem RefUp.start {s:ByteArray} (h:0 < s.size) : (¬ (s[0]=36∨s[0]=64)→sRef s.data.toList=none)∧((s[0]=36∨s[0]=64)→∃ R,RefUp s R 1 []∧sRef s.data.toList=R.map fun p=>(decide (s[0]=36),p)):=by
 have e:=dr_at h
 rw[dr_zero] at e
 have e2:sRef s.data.toList=(if s[0]=36∨s[0]=64 then (sSteps ((dr s 1).length+1) (dr s 1)).map (fun p=>(decide (s[0]=36),p)) else none):=by
  rw[e]; rfl
 refine⟨fun h1=>by rw[e2,if_neg h1],fun h1=>⟨sSteps ((dr s 1).length+1) (dr s 1),⟨_,Nat.lt_succ_self _,?_⟩,by rw[e2,if_pos h1]⟩⟩
 cases sSteps ((dr s 1).length+1) (dr s 1) <;> simp
def selsU (l:List PSel) : Nat→List UInt8
 | 0=>[]
 | k+1=>selsU l k++((if k=0 then 91 else 44) :: (match l[k]? with | some s=>selT s | none=>[]))
theorem selsU_next {l:List PSel} {k:Nat} (h:k < l.length) : selsU l (k+1)=selsU l k++((if k=0 then 91 else 44) :: selT l[k]):=by
 rw[selsU,List.getElem?_eq_getElem h]
def deepT (g:PSeg) : List UInt8:=if g.deep=true then [46,46] else []
def segX (g:PSeg) : List UInt8:=deepT g++(selsU g.sels g.sels.length++[93])
def pathU (ms:List PSeg) (i:Nat) : List UInt8:=36 :: (ms.take i).flatMap segX
theorem pathU_next {ms:List PSeg} {i:Nat} (h:i < ms.length) : pathU ms (i+1)=pathU ms i++segX ms[i]:=by
 unfold pathU
 rw[List.take_succ_eq_append_getElem h,List.flatMap_append,List.flatMap_singleton]
 rfl
theorem stTx_len {p:PStep} (h:stepOk p=true) : (stTx p).length≤15+2*szStep p:=by
 unfold stTx
 unfold stepOk at h
 have e:szStep p=p.name.size:=rfl
 split at h
 ·rename_i hb
  rw[if_pos hb]
  simp only[Bool.and_eq_true] at h
  have:=sdec_len h.2
  simp
  omega
 ·rename_i hb
  rw[if_neg hb]
  have:=quo_len p.name
  simp
  omega
theorem steps_len:∀ (l:List PStep),l.all stepOk=true→(l.flatMap stTx).length≤15*szSteps l
 | [],_=>by simp
 | p :: r,h=>by
  rw[List.all_cons,Bool.and_eq_true] at h
  have h1:=stTx_len h.1
  have h2:=steps_len r h.2
  have e1:szSteps (p :: r)=(p :: r).length+((p :: r).map szStep).sum:=rfl
  have e2:szSteps r=r.length+(r.map szStep).sum:=rfl
  rw[List.flatMap_cons,List.length_append]
  rw[List.length_cons,List.map_cons,List.sum_cons] at e1
  omega
theorem take_len {l:List PStep} {j:Nat} (h:l.all stepOk=true) : ((l.take j).flatMap stTx).length≤15*szSteps l:=by
 have h1:=steps_len l h
 have e:l.flatMap stTx=(l.take j).flatMap stTx++(l.drop j).flatMap stTx:=by rw[← List.flatMap_append,List.take_append_drop]
 rw[e,List.length_append] at h1
 omega
def refU (o:PFOp) (j:Nat) : List UInt8:=(if o.root=true then 36 else 64) :: (o.steps.take j).flatMap stTx
theorem refU_all (o:PFOp) : refU o o.steps.length=refT o:=by unfold refU refT; rw[List.take_length]
theorem refU_next {o:PFOp} {j:Nat} (hj:j < o.steps.length) : strOf (refU o (j+1))=((strOf (refU o j)++⟨#[91]⟩)++strOf (if o.steps[j].byI=true then sdec o.steps[j].idx else quo o.steps[j].name))++⟨#[93]⟩:=by
 rw[show (⟨#[91]⟩ : ByteArray)=strOf [91] from rfl,show (⟨#[93]⟩ : ByteArray)=strOf [93] from rfl,strOf_app,strOf_app,strOf_app]
 unfold refU
 rw[List.take_succ_eq_append_getElem hj,List.flatMap_append,List.flatMap_singleton]
 congr 1
 unfold stTx
 simp
theorem refText_walk (m:PFOp) (v:Value) (bl:List Nat) (w:World) (h:ORow stepE w v m.steps bl) (hok:m.steps.all stepOk=true) (hs:szSteps m.steps≤1048576) :
  Calls Tryz.prog 61 #[.agg #[.int .i64 m.k,.int .i64 m.n,.string m.s,.bool m.root,v]] w fun e w'=>e = .returned (.string (strOf (refT m)))∧Below w.heap.size w w':=by
 obtain⟨a,c,rfl,-,hxa⟩:=h.form
 have HROW:Hid (∀ (wr:World) (j:Nat) (hj:j < m.steps.length),Below w.heap.size w wr→∃ g,a=some ⟨g,0,none⟩∧wr.cell? ⟨g,j*3,none⟩=some (.bool m.steps[j].byI)∧wr.cell? ⟨g,j*3+1,none⟩=some (.string m.steps[j].name)∧wr.cell? ⟨g,j*3+2,none⟩=some (.int .i64 m.steps[j].idx) ∧
   (m.steps[j].byI=true→(Calls Tryz.prog 38 #[.int .i64 m.steps[j].idx] wr fun e w'=>e = .returned (.string (strOf (sdec m.steps[j].idx)))∧Below wr.heap.size wr w')∧(strOf (sdec m.steps[j].idx)).size≤3000000) ∧
   (Calls Tryz.prog 37 #[.string m.steps[j].name] wr fun e w'=>e = .returned (.string (strOf (quo m.steps[j].name)))∧Below wr.heap.size wr w')∧(strOf (quo m.steps[j].name)).size≤3000000):=by
  intro wr j hj hb
  obtain⟨g,rfl⟩:=hxa (by omega)
  obtain⟨vs,ib,hE,hc,-,-,-⟩:=(h.below hb).at (List.getElem?_eq_getElem hj)
  obtain⟨rfl,-⟩:=hE
  have hst:=List.all_eq_true.1 hok _ (List.getElem_mem hj)
  have hz1:=sum_mem szStep (List.getElem_mem hj)
  have hz2:szStep m.steps[j]=m.steps[j].name.size:=rfl
  have hz3:szSteps m.steps=m.steps.length+(m.steps.map szStep).sum:=rfl
  have hri:m.steps[j].byI=true→rangeI m.steps[j].idx=true:=fun e=>by
   unfold stepOk at hst
   rw[if_pos e,Bool.and_eq_true] at hst
   exact hst.2
  refine⟨g,rfl,(hc 0 _ rfl).1,(hc 1 _ rfl).1,(hc 2 _ rfl).1,fun e=>⟨sdec_walk _ wr (hri e),?_⟩,quo_walk _ wr (by omega),?_⟩
  ·rw[strOf_size]; have:=sdec_len (hri e); omega
  ·rw[strOf_size]; have:=quo_len m.steps[j].name; omega
 have HNX:Hid (∀ j (hj:j < m.steps.length),strOf (refU m (j+1))=((strOf (refU m j)++⟨#[91]⟩)++strOf (if m.steps[j].byI=true then sdec m.steps[j].idx else quo m.steps[j].name))++⟨#[93]⟩):=fun j hj=>refU_next hj
 have HSZ:Hid (∀ j,(strOf (refU m j)).size≤20000000):=fun j=>by
  have:=take_len (j:=j) hok
  rw[strOf_size]
  unfold refU
  rw[List.length_cons]
  omega
 have HST:Hid (strOf (refU m 0)=if m.root=true then ⟨#[36]⟩ else ⟨#[64]⟩):=by show _=_; unfold refU; rw[List.take_zero]; split <;> rfl
 have HAL:Hid (strOf (refU m m.steps.length)=strOf (refT m)):=by show _=_; rw[refU_all]
 have HB:Hid (∀ o,Below w.heap.size w (w.alloc o)):=fun o=>alloc_b w o
 have hlen:m.steps.length≤1048576:=by unfold szSteps at hs; omega
 clear h hxa hok hs
 generalize strOf (refT m)=R at *
 obtain⟨U,hU⟩ : ∃ U:Nat→ByteArray,U=fun j=>strOf (refU m j):=⟨_,rfl⟩
 have hU':∀ j,strOf (refU m j)=U j:=fun j=>by rw[hU]
 simp only[hU'] at HNX HSZ HST HAL
 clear hU hU'
 obtain⟨k,n,s,r,st⟩:=m
 simp only at *
 have hlI:(st.length:Int)≤1048576:=by omega
 obtain⟨BX,hBX⟩ : ∃ BX:World→Prop,BX=fun wr=>wr.heap[w.heap.size]?=some (Obj.cells #[.int .i64 k,.int .i64 n,.string s,.bool r,.slice a st.length c] 37 (0,0)):=⟨_,rfl⟩
 have HX0:Hid (BX (w.alloc (Obj.cells #[.int .i64 k,.int .i64 n,.string s,.bool r,.slice a st.length c] 37 (0,0)))):=by rw[hBX]; exact heap_alloc_new w _
 have HXN:Hid (∀ wr w',BX wr→Below wr.heap.size wr w'→BX w'):=by rw[hBX]; exact fun wr w' h hb=>(hb.block _ (Array.getElem?_eq_some_iff.1 h).1).trans h
 have HBX:Hid (∀ wr,BX wr→wr.cell? ⟨w.heap.size,4,none⟩=some (.slice a st.length c)):=by
  rw[hBX]; exact fun wr h=>Lib.cell_of_heap h 4
 clear hBX
 cases r
 all_goals
  go_enter Tryz.func61,Tryz.ntmps61
  go_wp2_with fail
  go_loopw [3,4] (fun ov iv wr=>∃ j:Nat,j≤st.length∧iv = .int .i64 (j:Int)∧Hid (ov = .string (U j))∧Below w.heap.size w wr∧BX wr) (fun _ iv _=>st.length - (intOf iv).toNat)
  case atStart=>exact⟨0,Nat.zero_le _,rfl,by show _=_; first | (rw[uh HST]; done) | (rw[uh HST]; rfl),uh HB _,uh HX0⟩
  case round=>
   obtain⟨j,hj,rfl,hov,hb,hbx⟩:=hrel
   obtain rfl:=uh hov
   clear hov
   have c4:=uh HBX _ hbx
   by_cases hlt:j < st.length
   ·have hltI:(j:Int) < (st.length:Int):=by omega
    obtain⟨g,rfl,d0,d1,d2,hc1,hc2,hz2⟩:=uh HROW _ j hlt hb
    have HNJ:=hide (uh HNX j hlt)
    have hsz:=uh HSZ j
    have HBW:=hide hb
    have HBXW:=hide hbx
    have HC1:=hide hc1
    have HC2:=hide hc2
    clear hb hbx hc1 hc2 HROW HNX HAL HSZ
    generalize st[j]=P at *
    obtain⟨byI,name,idx⟩:=P
    simp only at *
    generalize U j=UJ at *
    cases byI with
    | true=>
     obtain⟨hc3,hz2⟩:=uh HC1 rfl
     have HC3:=hide hc3
     have HNJ2:Hid (U (j+1)=((UJ++⟨#[91]⟩)++strOf (sdec idx))++⟨#[93]⟩):=by show _=_; rw[uh HNJ,if_pos rfl]
     clear HNJ HC1 HC2 hc3
     generalize strOf (sdec idx)=V at *
     have z1:(9223372036854775807 < UJ.size+1)=False:=eq_false (by omega)
     have z2:(9223372036854775807 < UJ.size+1+V.size)=False:=eq_false (by omega)
     have z3:(9223372036854775807 < UJ.size+1+V.size+1)=False:=eq_false (by omega)
     clear hz2 hsz
     go_wp2_with fail
     refine (uh HC3).mono ?_
     rintro e w1 ⟨rfl,b1⟩
     have HB2:=hide (below_next (uh HBW) b1)
     have HX2:=hide (uh HXN _ _ (uh HBXW) b1)
     clear HC3 b1 d0 d1 d2 c4 HBW HBXW
     go_wp2
     go_roundw
     case rel=>exact⟨j+1,by omega,by go_num,by show _=_; rw[uh HNJ2],uh HB2,uh HX2⟩
     case measure=>simp[intOf]; omega
    | false=>
     have HC3:=HC2
     have HNJ2:Hid (U (j+1)=((UJ++⟨#[91]⟩)++strOf (quo name))++⟨#[93]⟩):=by show _=_; rw[uh HNJ,if_neg (by simp)]
     clear HNJ HC1 HC2
     generalize strOf (quo name)=V at *
     have z1:(9223372036854775807 < UJ.size+1)=False:=eq_false (by omega)
     have z2:(9223372036854775807 < UJ.size+1+V.size)=False:=eq_false (by omega)
     have z3:(9223372036854775807 < UJ.size+1+V.size+1)=False:=eq_false (by omega)
     clear hz2 hsz
     go_wp2_with fail
     refine (uh HC3).mono ?_
     rintro e w1 ⟨rfl,b1⟩
     have HB2:=hide (below_next (uh HBW) b1)
     have HX2:=hide (uh HXN _ _ (uh HBXW) b1)
     clear HC3 b1 d0 d1 d2 c4 HBW HBXW
     go_wp2
     go_roundw
     case rel=>exact⟨j+1,by omega,by go_num,by show _=_; rw[uh HNJ2],uh HB2,uh HX2⟩
     case measure=>simp[intOf]; omega
   ·have hje:j=st.length:=by omega
    subst hje
    have HBW:=hide hb
    clear hb hbx HROW HNX HSZ
    go_wp2
    go_ret
    exact⟨by rw[← uh HAL]; rfl,uh HBW⟩
theorem sign_walk (n:Int) (w:World) (h:1≤n∧n≤6) : Calls Tryz.prog 62 #[.int .i64 n] w fun e w'=>e = .returned (.string (strOf (signT n)))∧Below w.heap.size w w':=by
 have HB:Hid (∀ o,Below w.heap.size w (w.alloc o)):=fun o=>alloc_b w o
 rcases (show n=1∨n=2∨n=3∨n=4∨n=5∨n=6 by omega) with rfl | rfl | rfl | rfl | rfl | rfl
 all_goals
  clear h
  go_enter Tryz.func62,Tryz.ntmps62
  go_wp2
  go_ret
  exact⟨rfl,uh HB _⟩
end Go.Proofs.YtkjcgkfejdogbaaGreatDoor
