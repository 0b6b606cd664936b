import Derived.Test.YtkjcgkfejdogbaaGreatDoorBz3
import Derived.Test.YtkjcgkfejdogbaaGreatDoorBz1
import Derived.Deep.QuietTactic
import Derived.Lib.Builder
import Derived.BigQuiet
import Derived.Laws.AppendOwnNone
import Derived.Lib.TrimUEq
import Derived.Lib.ValidU
import Derived.Lib.RuneBytes
import Derived.Lib.DecodeN
import Derived.Laws.IdiomStrings
set_option maxRecDepth 100000
set_option maxHeartbeats 8000000
namespace Go.Proofs.YtkjcgkfejdogbaaGreatDoor
open Go.RowKit
def tokCell (t:List UInt8) : Value:=.string ⟨t.toArray⟩
abbrev OT (w:World) (B:Nat) (v:Value) (ts:List (List UInt8)) : Prop:=w.ownsRow B 9 1 v ts.length (ts.map tokCell)
def baT (t:List UInt8) : ByteArray:=⟨t.toArray⟩
theorem OT.shape {w:World} {B:Nat} {v:Value} {ts:List (List UInt8)} (h:OT w B v ts) : ∃ a g cap,v = .slice a ts.length cap∧SS w a g 0 (ts.map baT)∧(0 < ts.length→B≤g):=by
 rcases h.2 with ⟨hv,h0⟩ | ⟨g,cap,cur,hv,hb,hg,_⟩
 ·exact⟨none,0,0,by rw[hv,h0],⟨fun h=>by rw[List.length_map] at h; omega,fun j hj=>by rw[List.length_map] at hj; omega⟩,fun h=>by omega⟩
 ·refine⟨some ⟨g,0,none⟩,g,cap,hv,⟨fun _=>rfl,fun j hj=>?_⟩,fun _=>hb⟩
  subst hv
  rw[List.length_map] at hj
  rw[Nat.zero_add,h.cellAt j (by omega)]
  simp[tokCell,baT,hj]
theorem OT.step {w:World} {B:Nat} {v:Value} {ts:List (List UInt8)} {t:List UInt8} (h:w.ownsRow B 9 1 v (ts.length+1) (ts.map tokCell++[tokCell t])) : OT w B v (ts++[t]):=by
 unfold OT; rw[List.length_append,List.map_append]; exact h
def NoSl (l:List UInt8) (f k:Nat) : Prop:=∀ m,f≤m→m < k→∀ c,l[m]?=some c→¬ c.toNat=47
theorem pieces_app {p:List UInt8} (hp:∀ c∈p,¬ c.toNat=47) {c:UInt8} (hc:c.toNat=47) (r:List UInt8) : pieces (p++c :: r)=p :: pieces r:=by
 induction p with
 | nil=>exact pieces_cut r hc
 | cons a p ih=>
  have:=ih (fun c hc=>hp c (List.mem_cons_of_mem _ hc))
  exact pieces_go (hp a List.mem_cons_self) this
theorem pieces_one {p:List UInt8} (hp:∀ c∈p,¬ c.toNat=47) : pieces p=[p]:=by
 induction p with
 | nil=>rfl
 | cons a p ih=>
  have:=ih (fun c hc=>hp c (List.mem_cons_of_mem _ hc))
  exact pieces_go (hp a List.mem_cons_self) this
theorem NoSl.piece {l:List UInt8} {f k:Nat} (h:NoSl l f k) : ∀ c∈(l.drop f).take (k - f),¬ c.toNat=47:=by
 intro c hc
 obtain⟨i,hi,rfl⟩:=List.mem_iff_getElem.1 hc
 rw[List.length_take,List.length_drop] at hi
 refine h (f+i) (by omega) (by omega) _ ?_
 rw[List.getElem_take,List.getElem_drop,List.getElem?_eq_getElem (by omega)]
theorem NoSl.cut {l:List UInt8} {f k:Nat} (h:NoSl l f k) (hfk:f≤k) (hk:k < l.length) (hc:l[k].toNat=47) : pieces (l.drop f)=(l.drop f).take (k - f) :: pieces (l.drop (k+1)):=by
 have e:l.drop f=(l.drop f).take (k - f)++l[k] :: l.drop (k+1):=by
  have h1:=(List.take_append_drop (k - f) (l.drop f)).symm
  rw[List.drop_drop,show f+(k - f)=k from by omega,List.drop_eq_getElem_cons hk] at h1
  exact h1
 have h2:=pieces_app h.piece hc (l.drop (k+1))
 rw[← e] at h2
 exact h2
theorem NoSl.last {l:List UInt8} {f:Nat} (h:NoSl l f l.length) : pieces (l.drop f)=[l.drop f]:=by
 have hp:=h.piece
 rw[List.take_of_length_le (by rw[List.length_drop]; omega)] at hp
 exact pieces_one hp
theorem NoSl.snoc {l:List UInt8} {f k:Nat} (h:NoSl l f k) (hk:k < l.length) (hc:¬ l[k].toNat=47) : NoSl l f (k+1):=by
 intro m h1 h2 c hm
 by_cases e:m=k
 ·subst e; rw[List.getElem?_eq_getElem hk] at hm; simp at hm; subst hm; exact hc
 ·exact h m h1 (by omega) c hm
theorem NoSl.none (l:List UInt8) (k:Nat) : NoSl l k k:=fun m h1 h2=>by omega
theorem toks_cons {l p:List UInt8} {ps:List (List UInt8)} (h:pieces l=p :: ps) : toks l=(unesc p).bind fun t=>(ps.mapM unesc).map (t :: ·):=by
 unfold toks; rw[h,List.mapM_cons]
 cases unesc p with
 | none=>rfl
 | some t=>cases List.mapM unesc ps <;> rfl
def TkAt (l:List UInt8) (f:Nat) (done:List (List UInt8)) : Prop:=toks (l.drop 1)=(toks (l.drop f)).map (done++·)
theorem TkAt.cut {l:List UInt8} {f k:Nat} {done:List (List UInt8)} {t:List UInt8} (h:TkAt l f done) (hn:NoSl l f k) (hfk:f≤k) (hk:k < l.length) (hc:l[k].toNat=47) (hu:unesc ((l.drop f).take (k - f))=some t) : TkAt l (k+1) (done++[t]):=by
 unfold TkAt at *
 rw[h,toks_cons (hn.cut hfk hk hc),hu]
 show Option.map (done++·) (Option.map (t :: ·) (toks (l.drop (k+1))))=_
 rw[Option.map_map]; congr 1; funext x; simp
theorem TkAt.last {l:List UInt8} {f:Nat} {done:List (List UInt8)} {t:List UInt8} (h:TkAt l f done) (hn:NoSl l f l.length) (hu:unesc ((l.drop f).take (l.length - f))=some t) : toks (l.drop 1)=some (done++[t]):=by
 rw[List.take_of_length_le (by rw[List.length_drop]; omega)] at hu
 unfold TkAt at h; rw[h,toks_cons hn.last,hu]; rfl
structure BS (w:World) (xa:Option Addr) (xb xo:Nat) (l:List UInt8) : Prop where
 ad:0 < l.length→xa=some ⟨xb,xo,none⟩
 cell:∀ j,j < l.length→w.cell? ⟨xb,xo+j,none⟩=some (.int .u8 (l.getD j 0).toNat)
theorem BS.grown {w w':World} {xa:Option Addr} {xb xo:Nat} {l:List UInt8} {r:Option Nat} (h:BS w xa xb xo l) (hg:w.grownBy w' r) (hne:0 < l.length→some xb≠r) : BS w' xa xb xo l:=
 ⟨h.ad,fun j hj=>hg.cell (h.cell j hj) (hne (by omega))⟩
theorem BS.below {w w':World} {xa:Option Addr} {xb xo:Nat} {l:List UInt8} (h:BS w xa xb xo l) (hb:Below w.heap.size w w') : BS w' xa xb xo l:=
 ⟨h.ad,fun j hj=>(hb.cell (p:=⟨xb,xo+j,none⟩) (World.block_lt_of_cell? _ _ (h.cell j hj))).trans (h.cell j hj)⟩
theorem BS.take {w:World} {xa:Option Addr} {xb xo:Nat} {l:List UInt8} (h:BS w xa xb xo l) (n:Nat) : BS w xa xb xo (l.take n):=
 ⟨fun h0=>h.ad (by rw[List.length_take] at h0; omega),fun j hj=>by
  rw[List.length_take] at hj
  rw[h.cell j (by omega)]; simp[List.getD,show j < n from by omega]⟩
def RdIs (w:World) (B rb:Nat) : Prop:=∃ (a:Option Addr) (c p:Nat) (l:List UInt8) (bb bo:Nat),w.heap[rb]?=some (.cells #[.slice a l.length c,.int .i64 p] 73 (0,0))∧B≤rb∧p≤l.length+300∧l.length≤1200∧BS w a bb bo l∧(0 < l.length→bb < B)
theorem RdIs.lt {w:World} {B rb:Nat} (h:RdIs w B rb) : rb < w.heap.size:=by
 obtain⟨a,c,p,l,bb,bo,hh,_⟩:=h; exact (Array.getElem?_eq_some_iff.1 hh).1
theorem RdIs.grown {w w':World} {B rb:Nat} {r:Option Nat} (h:RdIs w B rb) (hg:w.grownBy w' r) (hne:some rb≠r) (hB:∀ k,r=some k→B≤k) : RdIs w' B rb:=by
 have hlt:=h.lt
 obtain⟨a,c,p,l,bb,bo,hh,h1,h2,h3,h4,h5⟩:=h
 exact⟨a,c,p,l,bb,bo,(hg.block rb hlt hne).trans hh,h1,h2,h3,h4.grown hg (fun h0 e=>by have:=hB bb e.symm; have:=h5 h0; omega),h5⟩
theorem grownBy_trans {w w1 w2:World} {r:Option Nat} (h:w.grownBy w1 r) (k:w1.grownBy w2 r) : w.grownBy w2 r:=
 ⟨k.os.trans h.os,k.tape.trans h.tape,k.output.trans h.output,Nat.le_trans h.size k.size,fun j hj hne=>(k.block j (Nat.lt_of_lt_of_le hj h.size) hne).trans (h.block j hj hne)⟩
theorem grownBy_new {w w1 w2:World} {r:Option Nat} {s:Option Nat} (h:w.grownBy w1 r) (k:w1.grownBy w2 s) (hs:∀ j,s=some j→w.heap.size≤j) : w.grownBy w2 r:=
 ⟨k.os.trans h.os,k.tape.trans h.tape,k.output.trans h.output,Nat.le_trans h.size k.size,fun j hj hne=>(k.block j (Nat.lt_of_lt_of_le hj h.size) (fun e=>by have:=hs j e.symm; omega)).trans (h.block j hj hne)⟩
theorem grownBy_below {w w1:World} {r:Option Nat} (h:Below w.heap.size w w1) : w.grownBy w1 r:=⟨h.os,h.tape,h.output,h.size,fun k hk _=>h.block k hk⟩
theorem heap_set (w:World) (rb:Nat) (x y z:Value) (T:TypeId) (h:w.heap[rb]?=some (.cells #[x,y] T (0,0))) : (w.setCell ⟨rb,1,none⟩ z).heap[rb]?=some (.cells #[x,z] T (0,0)):=by
 have:=heap_setCell_same w rb 1 #[x,y] T z h
 simpa using this
theorem grown_setD (w:World) (n rb i:Nat) (z:Value) : w.grownBy ((w.drewN n).setCell ⟨rb,i,none⟩ z) (some rb):=
 ⟨rfl,rfl,rfl,by simp[World.setCell],fun k _ hne=>Below.heap_setCell (w.drewN n) ⟨rb,i,none⟩ z k (fun e=>hne (by rw[e]))⟩
theorem grown_draws (w:World) (n:Nat) (r:Option Nat) : w.grownBy (w.drewN n) r:=⟨rfl,rfl,rfl,Nat.le_refl _,fun _ _ _=>rfl⟩
theorem OT.cells {w:World} {B:Nat} {v:Value} {ts:List (List UInt8)} (h:OT w B v ts) : (v = .slice none 0 0∧ts=[])∨∃ g cap,v = .slice (some ⟨g,0,none⟩) ts.length cap∧(∀ j u,(ts.map tokCell)[j]?=some u→w.cell? ((⟨g,0,none⟩ : Addr).add j)=some u):=by
 rcases h.2 with ⟨hv,h0⟩ | ⟨g,cap,cur,hv,_⟩
 ·exact .inl ⟨hv,List.eq_nil_of_length_eq_zero h0⟩
 ·refine .inr ⟨g,cap,hv,fun j u hj=>?_⟩
  subst hv
  exact World.ownsRow.cells h rfl j u hj
end Go.Proofs.YtkjcgkfejdogbaaGreatDoor
namespace Go.Proofs.YtkjcgkfejdogbaaGreatDoor
open Go.RowKit Go.Lib
def bt (s:ByteArray) (i:Nat) : Nat:=(s.data.toList.getD i 0).toNat
theorem bt_at (s:ByteArray) (i:Nat) (h:i < s.size) : bt s i=s[i].toNat:=by
 unfold bt
 have:s.data.toList[i]?=some s[i]:=by rw[List.getElem?_eq_getElem (by rw[data_len]; exact h)]; rfl
 rw[List.getD_eq_getElem?_getD,this]; rfl
def rlN (n b0 b1 b2 b3:Nat) : Nat:=if b0 < 128 then 1 else if (decodeN n b0 b1 b2 b3).2=1 then 0 else (decodeN n b0 b1 b2 b3).2
def rl (s:ByteArray) (i:Nat) : Nat:=rlN (s.size - i) (bt s i) (bt s (i+1)) (bt s (i+2)) (bt s (i+3))
end Go.Proofs.YtkjcgkfejdogbaaGreatDoor
namespace Go.Proofs.YtkjcgkfejdogbaaGreatDoor
open Go.RowKit
def strOf (l:List UInt8) : ByteArray:=⟨l.toArray⟩
theorem strOf_toList (l:List UInt8) : (strOf l).data.toList=l:=by simp[strOf]
theorem strOf_size (l:List UInt8) : (strOf l).size=l.length:=by rw[← data_len,strOf_toList]
theorem convert_bytes (w:World) (l:List UInt8) (cs:Array Value) (n:Nat) (hn:n=l.length) (hcs:cs.toList=Lib.byteCells l) :
  (convert 22 9 (.slice (some ⟨w.heap.size,0,none⟩) n n)).run Tryz.prog (w.alloc (.cells cs 5)) = .ok (.string (strOf l)) (w.alloc (.cells cs 5)):=by
 subst hn
 exact run_convert_bytes_back (P:=Tryz.prog) _ 22 9 5 ⟨w.heap.size,0,none⟩ l.length l Tryz.underlying22 Tryz.underlying5 Tryz.underlying9 (fun j hj=>by
  rw[Go.WideShapes.add_plain,cell_of_row _ w.heap.size (0+j) cs 5 (0,0) (heap_alloc_new w _),Nat.zero_add]
  have h:=byteCells_at hj
  rw[← hcs] at h; simpa using h)
def hexs:List UInt8:=[48,49,50,51,52,53,54,55,56,57,97,98,99,100,101,102]
def qB (c:UInt8) : List UInt8:=
 if c.toNat=34∨c.toNat=92 then [92,c] else if c.toNat=8 then [92,98] else if c.toNat=9 then [92,116] else if c.toNat=10 then [92,110]
 else if c.toNat=12 then [92,102] else if c.toNat=13 then [92,114] else if c.toNat < 32 then [92,117,48,48,hexs.getD (c.toNat / 16) 0,hexs.getD (c.toNat % 16) 0] else [c]
def qs (l:List UInt8) : List UInt8:=l.flatMap qB
def quoted (l:List UInt8) : List UInt8:=34 :: (qs l++[34])
def atB (s:ByteArray) (k:Nat) (c:Int) : Bool:=match s.data.toList[k]? with
 | some x=>(x.toNat:Int) == c
 | none=>false
theorem getElem_data (s:ByteArray) (k:Nat) (h:k < s.size) : s.data.toList[k]?=some s[k]:=by
 rw[List.getElem?_eq_getElem (by rw[data_len]; exact h)]; rfl
theorem atB_in {s:ByteArray} {k:Nat} {c:Int} (h:k < s.size) : atB s k c=((s[k].toNat:Int) == c):=by
 unfold atB; rw[getElem_data s k h]
theorem atB_out {s:ByteArray} {k:Nat} {c:Int} (h:¬ k < s.size) : atB s k c=false:=by
 unfold atB; rw[List.getElem?_eq_none (by rw[data_len]; omega)]
theorem ret_bool {a b:Bool} (h:a=b) : Ending.returned (.bool a) = .returned (.bool b):=by rw[h]
theorem at_walk (s:ByteArray) (i:Int) (k:Nat) (hik:i=(k:Int)) (c:Int) (w:World) :
  Calls Tryz.prog 21 #[.string s,.int .i64 i,.int .u8 c] w fun e w'=>e = .returned (.bool (atB s k c))∧w=w':=by
 subst hik
 by_cases h:k < s.size
 ·have HB:=hide (atB_in (c:=c) h)
  have h':(k:Int) < (s.size:Int):=by omega
  go_enter Tryz.func21,Tryz.ntmps21
  go_wp2
  go_ret
  exact⟨ret_bool (by rw[uh HB]),rfl⟩
 ·have HB:=hide (atB_out (c:=c) h)
  have h':decide ((k:Int) < (s.size:Int))=false:=by simp; omega
  go_enter Tryz.func21,Tryz.ntmps21
  go_wp2
  go_ret
  exact⟨ret_bool (by rw[uh HB]),rfl⟩
theorem all_no58 (p q:Bs) : sInt (p++58 :: q)=none:=by
 cases hs:sInt (p++58 :: q) with
 | none=>rfl
 | some n=>
  have:=(sInt_all hs).2
  rw[List.all_append,List.all_cons,Bool.and_eq_true,Bool.and_eq_true] at this
  exact absurd this.2.1 (by decide)
theorem spl_one {p:Bs} (h:p.all isI=true) : spl 58 [] 0 [] p=[p]:=by
 have:=spl_cl (w:=58) (ws:=[]) (by decide) (cl_I h) 0 [] [] (by omega) (fun _=>by decide)
 rw[List.append_nil] at this
 rw[this,spl_nil,List.nil_append]
theorem spl_58 {p:Bs} (h:p.all isI=true) (q:Bs) : spl 58 [] 0 [] (p++58 :: q)=p :: spl 58 [] 0 [] q:=by
 rw[spl_cl (w:=58) (ws:=[]) (by decide) (cl_I h) 0 [] (58 :: q) (by omega) (fun _=>by decide),List.nil_append]
 exact spl_hit (w:=58) (ws:=[]) p q
theorem sSel_is {n:Nat} {c:UInt8} {r:Bs} (h:isI c=true∨c=58) : sSel n (c :: r)=(match sInt (c :: r) with
   | some m=>some (idxS m,0)
   | none=>(sSlc (c :: r)).map fun x=>(x,0)):=by
 obtain⟨h1,h2,h3⟩:=isI_no h
 unfold sSel
 rw[if_neg (by intro e; injection e with e _; exact h2 e),if_neg (by intro e; injection e with e; exact h3 e),hd_str h1]
 cases sInt (c :: r) <;> rfl
theorem cl_P3 {p:Bs} (h:p.all isI=true) : Cl P3 p:=(cl_I h).mono P3_I
theorem is_got {n:Nat} {l t:Bs} {x:PSel} (h:pIS l=some (x,t)) : ∃ s,l=s++t∧sSel n s=some (x,0)∧Cl P3 s∧s≠[]:=by
 unfold pIS at h
 cases hm:pMI l with
 | none=>rw[hm] at h; cases h
 | some q=>
  obtain⟨a,u⟩:=q
  rw[hm] at h
  simp only at h
  obtain⟨p,e,hp,hall,h0,h1⟩:=mi_got hm
  subst e
  split at h
  ·rename_i ha
   injection h with h
   injection h with h2 h3
   subst h2; subst h3
   obtain⟨hne,hi⟩:=h1 ha.1
   refine⟨p,rfl,?_,cl_P3 hall,hne⟩
   cases p with
   | nil=>exact absurd rfl hne
   | cons c r=>
    rw[List.all_cons,Bool.and_eq_true] at hall
    rw[sSel_is (.inl hall.1),hi]
  ·cases u with
   | nil=>cases h
   | cons d v=>
    simp only at h
    split at h
    ·rename_i hd
     subst hd
     cases hm2:pMI v with
     | none=>rw[hm2] at h; cases h
     | some q2=>
      obtain⟨b,u2⟩:=q2
      rw[hm2] at h
      simp only at h
      obtain⟨p2,e2,hp2,hall2,-,-⟩:=mi_got hm2
      subst e2
      have two:∀ y:PSel,y=slcS a b (false,0)→sSel n (p++58 :: p2)=some (y,0)∧Cl P3 (p++58 :: p2)∧p++58 :: p2≠[]:=by
       rintro y rfl
       obtain⟨c,z,hcz,hc⟩:=sMI_hd hp p2
       refine⟨?_,(cl_P3 hall).app (.chr (by decide) (by decide) (cl_P3 hall2)),by simp⟩
       have hi:=all_no58 p p2
       have hs:sSlc (p++58 :: p2)=some (slcS a b (false,0)):=by
        unfold sSlc
        rw[spl_58 hall,spl_one hall2]
        simp only
        rw[hp,hp2]
       rw[hcz] at hi hs ⊢
       rw[sSel_is hc,hi]
       simp only
       rw[hs]; rfl
      cases u2 with
      | nil=>
       injection h with h
       injection h with h2 h3
       subst h3
       obtain⟨k1,k2,k3⟩:=two x h2.symm
       exact⟨_,by simp,k1,k2,k3⟩
      | cons e w=>
       simp only at h
       split at h
       ·rename_i he
        subst he
        cases hm3:pMI w with
        | none=>rw[hm3] at h; cases h
        | some q3=>
         obtain⟨b3,u3⟩:=q3
         rw[hm3] at h
         simp only at h
         obtain⟨p3,e3,hp3,hall3,-,-⟩:=mi_got hm3
         subst e3
         injection h with h
         injection h with h2 h3
         subst h2; subst h3
         obtain⟨c,z,hcz,hc⟩:=sMI_hd hp (p2++58 :: p3)
         refine⟨p++58 :: (p2++58 :: p3),by simp,?_,(cl_P3 hall).app (.chr (by decide) (by decide) ((cl_P3 hall2).app (.chr (by decide) (by decide) (cl_P3 hall3)))),by simp⟩
         have hi:=all_no58 p (p2++58 :: p3)
         have hs:sSlc (p++58 :: (p2++58 :: p3))=some (slcS a b b3):=by
          unfold sSlc
          rw[spl_58 hall,spl_58 hall2,spl_one hall3]
          simp only
          rw[hp,hp2,hp3]
         rw[hcz] at hi hs ⊢
         rw[sSel_is hc,hi]
         simp only
         rw[hs]; rfl
       ·injection h with h
        injection h with h2 h3
        subst h3
        obtain⟨k1,k2,k3⟩:=two x h2.symm
        exact⟨_,by simp,k1,k2,k3⟩
    ·cases h
theorem P3_2 (c:UInt8) (h:P2 c=true) : P3 c=true:=by unfold P3; rw[h]; rfl
theorem sel_got {n:Nat} {l t:Bs} {x:XS} (h:pSel n l=some (x,t)) : ∃ s,l=s++t∧sSel n s=some x∧Cl P3 s∧s≠[]:=by
 cases l with
 | nil=>cases h
 | cons c r=>
  rw[pSel_con] at h
  split at h
  ·rename_i hc
   cases hv:pStr (c :: r) with
   | none=>rw[hv] at h; cases h
   | some q=>
    obtain⟨v,u⟩:=q
    rw[hv] at h
    injection h with h
    injection h with h1 h2
    have h2':u=t:=h2
    subst h2'; subst h1
    obtain⟨s,e,hs,q,hq,hE⟩:=pStr_some hv
    refine⟨s,e,?_,?_,by rw[hq]; simp⟩
    ·unfold sSel
     rw[if_neg (by rw[hq]; intro e; injection e with e _; exact absurd e (by decide)),if_neg (by rw[hq]; intro e; injection e with e; exact absurd e (by decide)),hs]
    ·rw[hq]
     have:=Cl.quo (P:=P3) (r:=[]) hE .nil
     rw[List.append_nil] at this
     exact this
  ·split at h
   ·rename_i hc
    subst hc
    injection h with h
    injection h with h1 h2
    subst h1; subst h2
    exact⟨[42],rfl,rfl,.chr (by decide) (by decide) .nil,by simp⟩
   ·split at h
    ·rename_i hc
     subst hc
     cases hv:pCd n r with
     | none=>rw[hv] at h; cases h
     | some q=>
      obtain⟨v,u⟩:=q
      rw[hv] at h
      injection h with h
      injection h with h1 h2
      have h2':u=t:=h2
      subst h2'; subst h1
      obtain⟨s,e,hs,hcl⟩:=(fit_cd n).got hv
      refine⟨63 :: s,by rw[e]; rfl,?_,.chr (by decide) (by decide) (hcl.mono P3_2),by simp⟩
      unfold sSel
      rw[if_neg (by intro e; injection e with e _; exact absurd e (by decide)),if_pos (show (63 :: s).head?=some 63 from rfl),List.tail_cons,hs]; rfl
    ·cases hv:pIS (c :: r) with
     | none=>rw[hv] at h; cases h
     | some q=>
      obtain⟨v,u⟩:=q
      rw[hv] at h
      injection h with h
      injection h with h1 h2
      have h2':u=t:=h2
      subst h2'; subst h1
      exact is_got hv
abbrev XL:=List PSel×Nat
def joinS (x:XL) (y:XS) : XL:=(x.1++[y.1],max x.2 y.2)
def pSMore (n:Nat) : Nat→XL→Bs→Option (XL×Bs)
 | 0,_,_=>none
 | m+1,x,t=>match t with
  | []=>some (x,[])
  | a :: r=>if a=44 then (match pSel n r with
    | none=>none
    | some (y,u)=>pSMore n m (joinS x y) u)
   else some (x,a :: r)
def pSels (n:Nat) (l:Bs) : Option (XL×Bs):=match pSel n l with
 | none=>none
 | some (y,t)=>pSMore n (t.length+1) ([y.1],y.2) t
def sSMore (n:Nat) : XL→List Bs→Option XL
 | x,[]=>some x
 | x,p :: r=>match sSel n p with
  | none=>none
  | some y=>sSMore n (joinS x y) r
def sSels (n:Nat) (s:Bs) : Option XL:=sSMore n ([],0) (spl 44 [] 0 [] s)
def cat1 (ps:List Bs) : Bs:=ps.flatMap fun p=>44 :: p
theorem jn_cat1:∀ (r:List Bs) (p:Bs),jn [44] (p :: r)=p++cat1 r
 | [],p=>by simp[jn,cat1]
 | q :: r,p=>by
  rw[jn,jn_cat1 r q]
  unfold cat1
  simp
theorem cat1_len:∀ ps:List Bs,ps.length≤(cat1 ps).length
 | []=>by simp
 | p :: r=>by
  have:=cat1_len r
  have e:cat1 (p :: r)=44 :: (p++cat1 r):=by simp[cat1]
  rw[e]; simp; omega
theorem pSMore_nil (n m:Nat) (x:XL) : pSMore n (m+1) x []=some (x,[]):=by rw[pSMore]
theorem pSMore_con (n m : Nat) (x : XL) (a : UInt8) (r : Bs) : pSMore n (m + 1) x (a :: r) = (if a = 44 then (match pSel n r with
        | none=>none
        | some (y,u)=>pSMore n m (joinS x y) u)
   else some (x,a :: r)):=by rw[pSMore.eq_def]
theorem cat1_end {r:List Bs} {t:Bs} (ht:∀ a b,t=a :: b→a=93) : EndS (cat1 r++t):=by
 intro a b hab
 cases r with
 | nil=>rw[ht a b hab]; decide
 | cons q r'=>
  have:cat1 (q :: r')++t=44 :: (q++(cat1 r'++t)):=by simp[cat1]
  rw[this] at hab
  injection hab with h1 _
  rw[← h1]; decide
theorem smore_ext {n:Nat} : ∀ (ps:List Bs) (x y:XL),sSMore n x ps=some y→∀ t:Bs,(∀ a b,t=a :: b→a=93)→∀ m,ps.length < m→pSMore n m x (cat1 ps++t)=some (y,t)
 | [],x,y,hs,t,ht,m,hm=>by
  rw[sSMore] at hs
  injection hs with hs
  subst hs
  obtain⟨j,rfl⟩ : ∃ j,m=j+1:=⟨m - 1,by simp at hm; omega⟩
  show pSMore n (j+1) x t=_
  cases t with
  | nil=>exact pSMore_nil n j x
  | cons a r=>rw[pSMore_con,if_neg (by rw[ht a r rfl]; decide)]
 | p :: r,x,y,hs,t,ht,m,hm=>by
  rw[sSMore] at hs
  obtain⟨j,rfl⟩ : ∃ j,m=j+1:=⟨m - 1,by simp at hm; omega⟩
  cases hg:sSel n p with
  | none=>rw[hg] at hs; cases hs
  | some z=>
   rw[hg] at hs
   simp only at hs
   have e:cat1 (p :: r)++t=44 :: (p++(cat1 r++t)):=by simp[cat1]
   rw[e,pSMore_con,if_pos rfl,sel_ext hg (cat1_end ht)]
   simp only
   exact smore_ext r _ y hs t ht j (by simp at hm; omega)
theorem sels_ext {n:Nat} {s:Bs} {x:XL} (h:sSels n s=some x) (t:Bs) : pSels n (s++93 :: t)=some (x,93 :: t):=by
 unfold sSels at h
 obtain⟨h1,h2⟩:=spl_jn 44 [] s 0 []
 rw[List.nil_append] at h2
 cases hps:spl 44 [] 0 [] s with
 | nil=>exact absurd hps h1
 | cons p r=>
  rw[hps] at h h2
  rw[sSMore] at h
  rw[jn_cat1] at h2
  cases hg:sSel n p with
  | none=>rw[hg] at h; cases h
  | some z=>
   rw[hg] at h
   simp only at h
   have ht:∀ a b,(93 :: t:Bs)=a :: b→a=93:=fun a b e=>by injection e with e _; exact e.symm
   unfold pSels
   rw[← h2,List.append_assoc,sel_ext hg (cat1_end ht)]
   simp only
   have ez:joinS ([],0) z=([z.1],z.2):=by unfold joinS; simp
   rw[ez] at h
   exact smore_ext r _ x h (93 :: t) ht _ (by rw[List.length_append]; have:=cat1_len r; omega)
theorem smore_got {n:Nat} : ∀ (m:Nat) (x y:XL) (t0 t:Bs),pSMore n m x t0=some (y,t)→∃ qs,t0=cat1 qs++t∧sSMore n x qs=some y∧∀ q∈qs,Cl P3 q
 | 0,x,y,t0,t,hs=>by rw[pSMore] at hs; cases hs
 | m+1,x,y,[],t,hs=>by
  rw[pSMore_nil] at hs
  injection hs with hs
  injection hs with h1 h2
  subst h1; subst h2
  exact⟨[],rfl,rfl,fun q hq=>by cases hq⟩
 | m+1,x,y,a :: r,t,hs=>by
  rw[pSMore_con] at hs
  split at hs
  ·rename_i ha
   subst ha
   cases hf:pSel n r with
   | none=>rw[hf] at hs; cases hs
   | some z=>
    obtain⟨z,u⟩:=z
    rw[hf] at hs
    simp only at hs
    obtain⟨p,e,hg,hcl,-⟩:=sel_got hf
    obtain⟨qs,e2,hm,hq⟩:=smore_got m _ y u t hs
    subst e2; subst e
    refine⟨p :: qs,by simp[cat1],?_,fun q hq2=>?_⟩
    ·rw[sSMore,hg]; exact hm
    ·rcases List.mem_cons.1 hq2 with rfl | hq2
     ·exact hcl
     ·exact hq q hq2
  ·injection hs with hs
   injection hs with h1 h2
   subst h1; subst h2
   exact⟨[],rfl,rfl,fun q hq=>by cases hq⟩
theorem spl_cat1:∀ (qs:List Bs) (p cur:Bs),Cl P3 p→(∀ q∈qs,Cl P3 q)→spl 44 [] 0 cur (p++cat1 qs)=(cur++p) :: qs
 | [],p,cur,hp,_=>by
  show spl 44 [] 0 cur (p++[])=_
  rw[spl_cl (by decide) hp 0 cur [] (by omega) (fun _=>by decide),spl_nil]
 | q :: qs,p,cur,hp,hq=>by
  have e:cat1 (q :: qs)=44 :: ([]++(q++cat1 qs)):=by simp[cat1]
  rw[e,spl_cl (by decide) hp 0 cur _ (by omega) (fun _=>by decide),spl_hit,spl_cat1 qs q [] (hq q List.mem_cons_self) (fun x hx=>hq x (List.mem_cons_of_mem _ hx)),List.nil_append]
def P4 (c:UInt8) : Bool:=P3 c || c == 44
theorem sels_got {n:Nat} {l t:Bs} {x:XL} (h:pSels n l=some (x,t)) : ∃ s,l=s++t∧sSels n s=some x∧Cl P4 s:=by
 unfold pSels at h
 cases hf:pSel n l with
 | none=>rw[hf] at h; cases h
 | some z=>
  obtain⟨z,u⟩:=z
  rw[hf] at h
  simp only at h
  obtain⟨p,e,hg,hcl,-⟩:=sel_got hf
  obtain⟨qs,e2,hm,hq⟩:=smore_got _ _ _ _ _ h
  subst e2; subst e
  refine⟨p++cat1 qs,by simp,?_,?_⟩
  ·unfold sSels
   rw[spl_cat1 qs p [] hcl hq,List.nil_append,sSMore,hg]
   have ez:joinS ([],0) z=([z.1],z.2):=by unfold joinS; simp
   simp only
   rw[ez]; exact hm
  ·have hmono:∀ {q:Bs},Cl P3 q→Cl P4 q:=fun h=>h.mono fun a ha=>by unfold P4; rw[ha]; rfl
   have hcat:∀ qs:List Bs,(∀ q∈qs,Cl P3 q)→Cl P4 (cat1 qs):=by
    intro qs
    induction qs with
    | nil=>intro _; exact .nil
    | cons q r ih=>
     intro hq
     have e:cat1 (q :: r)=44 :: (q++cat1 r):=by simp[cat1]
     rw[e]
     exact .chr (by decide) (by decide) ((hmono (hq q List.mem_cons_self)).app (ih fun x hx=>hq x (List.mem_cons_of_mem _ hx)))
   exact (hmono hcl).app (hcat qs hq)
def pBr (n:Nat) (r:Bs) : Option (XL×Bs):=match pSels n r with
 | none=>none
 | some (x,t)=>match t with
  | []=>none
  | d :: u=>if d=93 then some (x,u) else none
def sBr (n:Nat) (r:Bs) : Option (XL×Bs):=match clo 0 0 (91 :: r) with
 | none=>none
 | some k=>if 2≤k∧(91 :: r)[k - 1]?=some 93 then (sSels n (r.take (k - 2))).map fun x=>(x,r.drop (k - 1)) else none
theorem br_same (n:Nat) (r:Bs) : pBr n r=sBr n r:=by
 have key:∀ x u,pBr n r=some (x,u)↔sBr n r=some (x,u):=by
  intro x u
  constructor
  ·intro h
   unfold pBr at h
   cases hp:pSels n r with
   | none=>rw[hp] at h; cases h
   | some q=>
    obtain⟨y,t⟩:=q
    rw[hp] at h
    simp only at h
    cases t with
    | nil=>cases h
    | cons d v=>
     simp only at h
     split at h
     ·rename_i hd
      subst hd
      injection h with h
      injection h with h1 h2
      subst h1; subst h2
      obtain⟨s,e,hs,hcl⟩:=sels_got hp
      subst e
      unfold sBr
      rw[clo_at hcl (.inr rfl) (.inr rfl)]
      simp only
      have e1:(91 :: (s++93 :: v))[s.length+2 - 1]?=some 93:=by
       show (91 :: (s++93 :: v))[s.length+1]?=some 93
       simp
      have e2:(s++93 :: v).take (s.length+2 - 2)=s:=by simp
      have e3:(s++93 :: v).drop (s.length+2 - 1)=v:=by
       show (s++93 :: v).drop (s.length+1)=v
       simp[List.drop_append]
      rw[if_pos ⟨by omega,e1⟩,e2,e3,hs]; rfl
     ·cases h
  ·intro h
   unfold sBr at h
   cases hc:clo 0 0 (91 :: r) with
   | none=>rw[hc] at h; cases h
   | some k=>
    rw[hc] at h
    simp only at h
    split at h
    ·rename_i hk
     cases hs:sSels n (r.take (k - 2)) with
     | none=>rw[hs] at h; cases h
     | some y=>
      rw[hs] at h
      injection h with h
      injection h with h1 h2
      subst h1; subst h2
      obtain⟨j,rfl⟩ : ∃ j,k=j+2:=⟨k - 2,by omega⟩
      have h93:r[j]?=some 93:=by
       have:=hk.2
       simpa using this
      have hr:r=r.take j++93 :: r.drop (j+1):=by
       have hj:j < r.length:=by
        rcases Nat.lt_or_ge j r.length with h | h
        ·exact h
        ·rw[List.getElem?_eq_none h] at h93; cases h93
       rw[List.getElem?_eq_getElem hj] at h93
       injection h93 with h93
       rw[← h93,List.getElem_cons_drop,List.take_append_drop]
      have:=sels_ext (n:=n) (s:=r.take j) hs (r.drop (j+1))
      rw[← hr] at this
      unfold pBr
      rw[this]
      simp only
      rw[if_pos (by trivial)]; rfl
    ·cases h
 cases hp:pBr n r with
 | some q=>exact ((key q.1 q.2).1 hp).symm
 | none=>
  cases hs:sBr n r with
  | none=>rfl
  | some q=>rw[(key q.1 q.2).2 hs] at hp; cases hp
abbrev XG:=PSeg×Nat
def nmP (deep:Bool) (l:Bs) : Option (XG×Bs):=match l with
 | []=>none
 | c :: r=>if c=42 then some ((⟨deep,[allS]⟩,0),r) else (pName (c :: r)).map fun p=>((⟨deep,[nameS p.1]⟩,0),p.2)
def brP (br:Bs→Option (XL×Bs)) (deep:Bool) (r:Bs) : Option (XG×Bs):=(br r).map fun p=>((⟨deep,p.1.1⟩,p.1.2),p.2)
def dotP (br:Bs→Option (XL×Bs)) (r:Bs) : Option (XG×Bs):=match r with
 | []=>none
 | d :: u=>if d=46 then (match u with
   | []=>none
   | e :: v=>if e=91 then brP br true v else nmP true (e :: v)) else nmP false (d :: u)
theorem dotP_con (br:Bs→Option (XL×Bs)) (d:UInt8) (u:Bs) : dotP br (d :: u)=(if d=46 then (match u with
   | []=>none
   | e :: v=>if e=91 then brP br true v else nmP true (e :: v)) else nmP false (d :: u)):=rfl
def segP (br:Bs→Option (XL×Bs)) (l:Bs) : Option (XG×Bs):=match l with
 | []=>none
 | c :: r=>if c=91 then brP br false r else if c=46 then dotP br r else none
theorem seg_same (n:Nat) (l:Bs) : segP (pBr n) l=segP (sBr n) l:=by
 rw[show pBr n=sBr n from funext (br_same n)]
theorem pName_len {l s t:Bs} (h:pName l=some (s,t)) : t.length < l.length:=by
 obtain⟨e,hs,-⟩:=pName_some h
 subst e
 cases s with
 | nil=>cases hs
 | cons c r=>simp; omega
theorem nmP_len {deep:Bool} {l t:Bs} {x:XG} (h:nmP deep l=some (x,t)) : t.length < l.length:=by
 cases l with
 | nil=>cases h
 | cons c r=>
  have h1:(if c=42 then some (((⟨deep,[allS]⟩,0) : XG),r) else (pName (c :: r)).map fun p=>((⟨deep,[nameS p.1]⟩,0),p.2))=some (x,t):=h
  split at h1
  ·injection h1 with h1
   injection h1 with _ h2
   subst h2; simp
  ·cases hp:pName (c :: r) with
   | none=>rw[hp] at h1; cases h1
   | some q=>
    rw[hp] at h1
    injection h1 with h1
    injection h1 with _ h2
    rw[← h2]
    exact pName_len (s:=q.1) (t:=q.2) hp
theorem pBr_len {n:Nat} {r t:Bs} {x:XL} (h:pBr n r=some (x,t)) : t.length < r.length:=by
 unfold pBr at h
 cases hp:pSels n r with
 | none=>rw[hp] at h; cases h
 | some q=>
  obtain⟨y,u⟩:=q
  rw[hp] at h
  simp only at h
  obtain⟨s,e,-,-⟩:=sels_got hp
  cases u with
  | nil=>cases h
  | cons d v=>
   simp only at h
   split at h
   ·injection h with h
    injection h with _ h2
    subst h2; subst e
    simp; omega
   ·cases h
theorem seg_len {n:Nat} {l t:Bs} {x:XG} (h:segP (pBr n) l=some (x,t)) : t.length < l.length:=by
 have hbr:∀ {deep r},brP (pBr n) deep r=some (x,t)→t.length < r.length:=by
  intro deep r h
  unfold brP at h
  cases hp:pBr n r with
  | none=>rw[hp] at h; cases h
  | some q=>
   rw[hp] at h
   injection h with h
   injection h with _ h2
   rw[← h2]
   exact pBr_len (x:=q.1) (t:=q.2) hp
 cases l with
 | nil=>cases h
 | cons c r=>
  have h1:(if c=91 then brP (pBr n) false r else if c=46 then dotP (pBr n) r else none)=some (x,t):=h
  rw[List.length_cons]
  split at h1
  ·have:=hbr h1; omega
  ·split at h1
   ·cases r with
    | nil=>cases h1
    | cons d u=>
     have h2:=h1
     rw[dotP_con] at h2
     rw[List.length_cons]
     split at h2
     ·cases u with
      | nil=>cases h2
      | cons e v=>
       simp only at h2
       rw[List.length_cons]
       split at h2
       ·have:=hbr h2; omega
       ·have:=nmP_len h2; rw[List.length_cons] at this; omega
     ·have:=nmP_len h2; rw[List.length_cons] at this; omega
   ·cases h1
abbrev XP:=List PSeg×Nat
def joinG (x:XP) (y:XG) : XP:=(x.1++[y.1],max x.2 y.2)
def segsP (br:Bs→Option (XL×Bs)) : Nat→XP→Bs→Option XP
 | 0,_,_=>none
 | m+1,x,l=>match l with
  | []=>some x
  | c :: r=>match segP br (c :: r) with
   | none=>none
   | some (y,t)=>segsP br m (joinG x y) t
def pathR (br:Bs→Option (XL×Bs)) (l:Bs) : List PSeg×Int:=if 1000 < l.length then ([],1) else match l with
 | []=>([],2)
 | c :: r=>if c=36 then (match segsP br (r.length+1) ([],0) r with
   | none=>([],2)
   | some x=>if 50 < x.2 then ([],3) else (x.1,0)) else ([],2)
theorem path_same (n:Nat) (l:Bs) : pathR (pBr n) l=pathR (sBr n) l:=by
 rw[show pBr n=sBr n from funext (br_same n)]
def dr (s:ByteArray) (i:Nat) : Bs:=s.data.toList.drop i
theorem dr_at {s:ByteArray} {i:Nat} (h:i < s.size) : dr s i=s[i] :: dr s (i+1):=by
 have hl:i < s.data.toList.length:=by rw[data_len]; exact h
 unfold dr
 rw[← List.getElem_cons_drop (h:=hl)]; rfl
theorem dr_end {s:ByteArray} {i:Nat} (h:s.size≤i) : dr s i=[]:=by
 unfold dr
 exact List.drop_of_length_le (by rw[data_len]; exact h)
theorem dr_len (s:ByteArray) (i:Nat) : (dr s i).length=s.size - i:=by
 unfold dr
 rw[List.length_drop,data_len]
theorem dr_one {s:ByteArray} {m:Nat} (hm:m < (dr s 1).length) (h:m+1 < s.size) : (dr s 1)[m]=s[m+1]:=by
 have e:(dr s 1)[m]?=some s[m+1]:=by
  unfold dr
  rw[List.getElem?_drop,Nat.add_comm,getElem_data s (m+1) h]
 rw[List.getElem?_eq_getElem hm] at e
 injection e
theorem dr_zero (s:ByteArray) : dr s 0=s.data.toList:=rfl
theorem letter_walk (c:UInt8) (w:World) : Calls Tryz.prog 44 #[.int .u8 (c.toNat:Int)] w fun e w'=>e = .returned (.bool (isLet c))∧w=w':=by
 have HV:Hid (isLet c=((decide (97≤c.toNat) && decide (c.toNat≤122)) || (decide (65≤c.toNat) && decide (c.toNat≤90)) || decide (c.toNat=95))):=rfl
 generalize isLet c=L at *
 generalize c.toNat=n at *
 by_cases h1:97≤n
 ·have i1:(97:Int)≤(n:Int):=by omega
  by_cases h2:n≤122
  ·have i2:(n:Int)≤122:=by omega
   go_enter Tryz.func44,Tryz.ntmps44
   go_wp2
   go_ret
   exact⟨by rw[uh HV]; simp[h1,h2],rfl⟩
  ·have i2:¬ (n:Int)≤122:=by omega
   have i3:(65:Int)≤(n:Int):=by omega
   have i4:¬ (n:Int)≤90:=by omega
   have i5:¬ (n:Int)=95:=by omega
   go_enter Tryz.func44,Tryz.ntmps44
   go_wp2
   go_ret
   exact⟨by rw[uh HV]; simp[h2,show ¬ n≤90 by omega,show ¬ n=95 by omega,i5],rfl⟩
 ·have i1:¬ (97:Int)≤(n:Int):=by omega
  by_cases h3:65≤n
  ·have i3:(65:Int)≤(n:Int):=by omega
   by_cases h4:n≤90
   ·have i4:(n:Int)≤90:=by omega
    go_enter Tryz.func44,Tryz.ntmps44
    go_wp2
    go_ret
    exact⟨by rw[uh HV]; simp[h3,h4],rfl⟩
   ·have i4:¬ (n:Int)≤90:=by omega
    by_cases h5:n=95
    ·have i5:(n:Int)=95:=by omega
     go_enter Tryz.func44,Tryz.ntmps44
     go_wp2
     go_ret
     exact⟨by rw[uh HV]; simp[h5],rfl⟩
    ·have i5:¬ (n:Int)=95:=by omega
     go_enter Tryz.func44,Tryz.ntmps44
     go_wp2
     go_ret
     exact⟨by rw[uh HV]; simp[h1,h4,h5,i5],rfl⟩
  ·have i3:¬ (65:Int)≤(n:Int):=by omega
   have i5:¬ (n:Int)=95:=by omega
   go_enter Tryz.func44,Tryz.ntmps44
   go_wp2
   go_ret
   exact⟨by rw[uh HV]; simp[h1,h3,show ¬ n=95 by omega,i5],rfl⟩
theorem digB_walk (c:UInt8) (w:World) : Calls Tryz.prog 45 #[.int .u8 (c.toNat:Int)] w fun e w'=>e = .returned (.bool (isDg c.toNat))∧w=w':=by
 generalize c.toNat=b
 by_cases h:48≤b
 ·have HD:Hid (isDg b=decide ((b:Int)≤57)):=by
   show _=_
   unfold isDg
   rw[decide_eq_true h,Bool.true_and]
   apply decide_eq_decide.2; omega
  have h1:(48:Int)≤(b:Int):=by omega
  go_enter Tryz.func45,Tryz.ntmps45
  go_wp2
  go_ret
  exact⟨by rw[uh HD]; rfl,rfl⟩
 ·have HD:Hid (isDg b=false):=by
   show _=_
   unfold isDg
   rw[decide_eq_false h,Bool.false_and]
  have h1:¬ (48:Int)≤(b:Int):=by omega
  go_enter Tryz.func45,Tryz.ntmps45
  go_wp2
  go_ret
  exact⟨by rw[uh HD]; rfl,rfl⟩
def NmUp (s:ByteArray) (k:Nat) : Prop:=∀ j (hj:j < s.size),j < k→isLet s[j]=true∨(j≠0∧isDg s[j].toNat=true)
theorem nm_yes {s:ByteArray} (h:NmUp s s.size) : sName s.data.toList=decide (0 < s.size):=by
 by_cases h0:0 < s.size
 ·have e:=dr_at h0
  rw[dr_zero] at e
  rw[e,decide_eq_true h0]
  show (isLet s[0] && (dr s 1).all isNm)=true
  rw[Bool.and_eq_true,List.all_eq_true]
  refine⟨?_,fun c hc=>?_⟩
  ·rcases h 0 h0 h0 with h | ⟨h,-⟩
   ·exact h
   ·exact absurd rfl h
  ·obtain⟨m,hm,rfl⟩:=List.mem_iff_getElem.1 hc
   have hm2:m+1 < s.size:=by rw[dr_len] at hm; omega
   have e2:(dr s 1)[m]=s[m+1]:=dr_one hm hm2
   rw[e2]
   unfold isNm
   rcases h (m+1) hm2 hm2 with h | ⟨-,h⟩ <;> simp[h]
 ·rw[decide_eq_false h0]
  have e:s.data.toList=[]:=by rw[← dr_zero]; exact dr_end (by omega)
  rw[e]; rfl
theorem nm_no {s:ByteArray} {k:Nat} (hk:k < s.size) (h1:isLet s[k]=false) (h2:k=0∨isDg s[k].toNat=false) : sName s.data.toList=false:=by
 have h0:0 < s.size:=by omega
 have e:=dr_at h0
 rw[dr_zero] at e
 rw[e]
 show (isLet s[0] && (dr s 1).all isNm)=false
 cases k with
 | zero=>rw[h1]; rfl
 | succ m=>
  have h2':isDg s[m+1].toNat=false:=by rcases h2 with h | h; cases h; exact h
  have:(dr s 1).all isNm=false:=by
   rw[List.all_eq_false]
   refine⟨s[m+1],?_,by unfold isNm; rw[h1,h2']; decide⟩
   have hm:m < (dr s 1).length:=by rw[dr_len]; omega
   have e2:(dr s 1)[m]=s[m+1]:=dr_one hm hk
   rw[← e2]
   exact List.getElem_mem hm
  rw[this,Bool.and_false]
theorem isName_walk (s:ByteArray) (w:World) (hs:s.size≤1048576) : Calls Tryz.prog 46 #[.string s] w fun e w'=>e = .returned (.bool (sName s.data.toList))∧w=w':=by
 have HL:Hid (∀ (k:Nat) (hk:k < s.size) (w:World),Calls Tryz.prog 44 #[.int .u8 (s[k].toNat:Int)] w fun e w'=>e = .returned (.bool (isLet s[k]))∧w=w'):=fun k hk w=>letter_walk _ w
 have HD:Hid (∀ (k:Nat) (hk:k < s.size) (w:World),Calls Tryz.prog 45 #[.int .u8 (s[k].toNat:Int)] w fun e w'=>e = .returned (.bool (isDg s[k].toNat))∧w=w'):=fun k hk w=>digB_walk _ w
 go_enter Tryz.func46,Tryz.ntmps46
 go_wp2
 go_loopw [3] (fun iv wr=>∃ k:Nat,k≤s.size∧iv = .int .i64 (k:Int)∧w=wr∧Hid (NmUp s k)) (fun iv _=>s.size - (intOf iv).toNat)
 case atStart=>exact⟨0,Nat.zero_le _,rfl,rfl,fun j _ hj=>by omega⟩
 case round=>
  obtain⟨k,hk,rfl,rfl,hd⟩:=hrel
  by_cases hlt:k < s.size
  ·have hltI:(k:Int) < (s.size:Int):=by omega
   have HLk:=hide (uh HL k hlt w)
   have HDk:=hide (uh HD k hlt w)
   clear HL HD
   have step:∀ (hok:isLet s[k]=true∨(k≠0∧isDg s[k].toNat=true)),Hid (NmUp s (k+1)):=fun hok j hj h=>by
    by_cases e:j=k
    ·subst e; exact hok
    ·exact uh hd j hj (by omega)
   cases hl:isLet s[k] with
   | true=>
    rw[hl] at HLk
    have HN:=step (.inl hl)
    clear hd step hl HDk
    go_wp2_with fail
    refine (uh HLk).mono ?_
    rintro e w2 ⟨rfl,rfl⟩
    clear HLk
    go_wp2
    go_roundw
    case rel=>exact⟨k+1,by omega,by go_num,trivial,HN⟩
    case measure=>simp[intOf]; omega
   | false=>
    rw[hl] at HLk
    by_cases h0:k=0
    ·have HQ:Hid (sName s.data.toList=false):=nm_no hlt hl (.inl h0)
     clear hd step hl HDk
     subst h0
     have hltI:(0:Int) < (s.size:Int):=by omega
     go_wp2_with fail
     refine (uh HLk).mono ?_
     rintro e w2 ⟨rfl,rfl⟩
     clear HLk
     go_wp2
     go_ret
     exact⟨by rw[uh HQ]; rfl,rfl⟩
    ·have h0I:¬ (k:Int)=0:=by omega
     cases hg:isDg s[k].toNat with
     | true=>
      rw[hg] at HDk
      have HN:=step (.inr ⟨h0,hg⟩)
      clear hd step hl hg
      go_wp2_with fail
      refine (uh HLk).mono ?_
      rintro e w2 ⟨rfl,rfl⟩
      clear HLk
      go_wp2_with fail
      refine (uh HDk).mono ?_
      rintro e w2 ⟨rfl,rfl⟩
      clear HDk
      go_wp2
      go_roundw
      case rel=>exact⟨k+1,by omega,by go_num,trivial,HN⟩
      case measure=>simp[intOf]; omega
     | false=>
      rw[hg] at HDk
      have HQ:Hid (sName s.data.toList=false):=nm_no hlt hl (.inr hg)
      clear hd step hl hg
      go_wp2_with fail
      refine (uh HLk).mono ?_
      rintro e w2 ⟨rfl,rfl⟩
      clear HLk
      go_wp2_with fail
      refine (uh HDk).mono ?_
      rintro e w2 ⟨rfl,rfl⟩
      clear HDk
      go_wp2
      go_ret
      exact⟨by rw[uh HQ]; rfl,rfl⟩
  ·obtain rfl:k=s.size:=by omega
   have HQ:Hid (sName s.data.toList=decide (0 < s.size)):=nm_yes (uh hd)
   clear hd HL HD
   go_wp2
   go_ret
   exact⟨by rw[uh HQ]; simp,rfl⟩
theorem u8_is {c d:UInt8} (h:c=d) : ((c.toNat:Nat) : Int)=((d.toNat:Nat) : Int):=by rw[h]
theorem u8_not {c d:UInt8} (h:¬ c=d) : ¬ ((c.toNat:Nat) : Int)=((d.toNat:Nat) : Int):=fun e=>h (UInt8.toNat_inj.1 (by omega))
def plcO (s:ByteArray) (o:Option Bs) : Int:=match o with
 | none=>-1
 | some t=>((s.size - t.length:Nat) : Int)
theorem strEnd_walk (s:ByteArray) (i:Nat) (hi:i < s.size) (w:World) (hs:s.size≤1048576) : Calls Tryz.prog 63 #[.string s,.int .i64 (i:Int)] w fun e w'=>e = .returned (.int .i64 (plcO s (sE (dr s (i+1)))))∧w=w':=by
 generalize hR:plcO s (sE (dr s (i+1)))=R
 have HR:=hide hR
 clear hR
 go_enter Tryz.func63,Tryz.ntmps63
 go_wp2
 go_loopw [1] (fun iv wr=>∃ k:Nat,k≤s.size+1∧iv = .int .i64 (k:Int)∧w=wr∧Hid (plcO s (sE (dr s k))=R)) (fun iv _=>s.size+1 - (intOf iv).toNat)
 case atStart=>exact⟨i+1,by omega,by go_num,rfl,HR⟩
 case round=>
  obtain⟨k,hk,rfl,rfl,hd⟩:=hrel
  clear HR
  by_cases hlt:k < s.size
  ·have hltI:(k:Int) < (s.size:Int):=by omega
   have hE:=dr_at hlt
   by_cases h92:s[k]=92
   ·have h92I:((s[k].toNat:Nat) : Int)=92:=u8_is h92
    have HN:Hid (plcO s (sE (dr s (k+2)))=R):=by
     show _=_
     rw[← uh hd,hE,sE_con,if_pos h92]
     by_cases h2:k+1 < s.size
     ·rw[dr_at h2]
     ·rw[dr_end (s:=s) (i:=k+1) (by omega),dr_end (s:=s) (i:=k+2) (by omega)]; rfl
    clear hd hE h92
    go_wp2
    go_roundw
    case rel=>exact⟨k+2,by omega,by go_num,trivial,HN⟩
    case measure=>simp[intOf]; omega
   ·have h92I:¬ ((s[k].toNat:Nat) : Int)=92:=u8_not h92
    by_cases h39:s[k]=39
    ·have h39I:((s[k].toNat:Nat) : Int)=39:=u8_is h39
     have HN:Hid ((k:Int)+1=R):=by
      show _=_
      rw[← uh hd,hE,sE_con,if_neg h92,if_pos h39]
      show _=((s.size - (dr s (k+1)).length:Nat) : Int)
      rw[dr_len]; omega
     clear hd hE h39 h92
     go_wp2
     go_ret
     exact⟨by rw[← uh HN]; congr 2,rfl⟩
    ·have h39I:¬ ((s[k].toNat:Nat) : Int)=39:=u8_not h39
     have HN:Hid (plcO s (sE (dr s (k+1)))=R):=by
      show _=_
      rw[← uh hd,hE,sE_con,if_neg h92,if_neg h39]
     clear hd hE h39 h92
     go_wp2
     go_roundw
     case rel=>exact⟨k+1,by omega,by go_num,trivial,HN⟩
     case measure=>simp[intOf]; omega
  ·have HN:Hid (R = -1):=by
    show _=_
    rw[← uh hd,dr_end (by omega)]; rfl
   have hltI:¬ (k:Int) < (s.size:Int):=by omega
   clear hd
   go_wp2
   go_ret
   exact⟨by rw[uh HN]; rfl,rfl⟩
theorem dr_dr (s:ByteArray) (i j:Nat) : (dr s i).drop j=dr s (i+j):=by unfold dr; rw[List.drop_drop]
theorem sE_dr {s:ByteArray} {k:Nat} (hk:k < s.size) {t:Bs} (h:sE (dr s (k+1))=some t) : t=dr s (s.size - t.length)∧t.length+(k+1) < s.size:=by
 have h1:=sE_drop h
 have h2:=sE_len h
 rw[dr_len] at h1 h2
 rw[dr_dr,show k+1+(s.size - (k+1) - t.length)=s.size - t.length by omega] at h1
 exact⟨h1.symm,by omega⟩
theorem clo_39 (o:Int) (i:Nat) (r:Bs) : clo o i (39 :: r)=(match sE r with
  | none=>none
  | some t=>clo o (i+(r.length+1 - t.length)) t):=by
 rw[clo,if_pos rfl]
 split <;> rename_i h <;> rw[h]
theorem clo_hit {o:Int} {i:Nat} {r:Bs} {c:UInt8} (hc:c≠39) (h:brkO o c=0) : clo o i (c :: r)=some (i+1):=by rw[clo,if_neg hc,if_pos h]
theorem clo_nil (o:Int) (i:Nat) : clo o i []=none:=by rw[clo]
def natO (o:Option Nat) : Int:=match o with
 | none=>-1
 | some n=>(n:Int)
theorem close_walk (s:ByteArray) (w:World) (hs:s.size≤1048576) : Calls Tryz.prog 41 #[.string s] w fun e w'=>e = .returned (.int .i64 (natO (clo 0 0 s.data.toList)))∧w=w':=by
 have HE:Hid (∀ (k:Nat) (hk:k < s.size) (w:World),Calls Tryz.prog 63 #[.string s,.int .i64 (k:Int)] w fun e w'=>e = .returned (.int .i64 (plcO s (sE (dr s (k+1)))))∧w=w'):=fun k hk w=>strEnd_walk s k hk w hs
 generalize hR:natO (clo 0 0 s.data.toList)=R
 have HR:Hid (natO (clo 0 0 (dr s 0))=R):=hR
 clear hR
 go_enter Tryz.func41,Tryz.ntmps41
 go_wp2
 go_loopw [3,4] (fun ov iv wr=>∃ (k:Nat) (o:Int),k≤s.size∧ov = .int .i64 o∧iv = .int .i64 (k:Int)∧-(k:Int)≤o∧o≤(k:Int)∧w=wr∧Hid (natO (clo o k (dr s k))=R)) (fun _ iv _=>s.size - (intOf iv).toNat)
 case atStart=>exact⟨0,0,by omega,rfl,rfl,by simp,by simp,rfl,HR⟩
 case round=>
  obtain⟨k,o,hk,rfl,rfl,hO1,hO2,rfl,hd⟩:=hrel
  clear HR
  by_cases hlt:k < s.size
  ·have hltI:(k:Int) < (s.size:Int):=by omega
   have hE:=dr_at hlt
   have HEk:=hide (uh HE k hlt w)
   clear HE
   by_cases h39:s[k]=39
   ·have h39I:((s[k].toNat:Nat) : Int)=39:=u8_is h39
    rw[hE,h39] at hd
    cases ht:sE (dr s (k+1)) with
    | none=>
     rw[ht] at HEk
     have HN:Hid (R = -1):=by
      show _=_
      rw[← uh hd,clo_39,ht]; rfl
     clear hd hE h39 ht
     go_wp2_with fail
     refine (uh HEk).mono ?_
     rintro e w2 ⟨rfl,rfl⟩
     clear HEk
     go_wp2
     go_ret
     exact⟨by rw[uh HN]; rfl,rfl⟩
    | some t=>
     rw[ht] at HEk
     obtain⟨e1,e2⟩:=sE_dr hlt ht
     have HN:Hid (natO (clo o (s.size - t.length) (dr s (s.size - t.length)))=R):=by
      show _=_
      rw[← uh hd,clo_39,ht]
      simp only
      rw[← e1,dr_len]
      congr 2; omega
     have hq:∃ q:Nat,s.size - t.length=q∧k < q∧q≤s.size:=⟨_,rfl,by omega,by omega⟩
     obtain⟨q,hq,hq1,hq2⟩:=hq
     have HEq:Hid (Calls Tryz.prog 63 #[.string s,.int .i64 (k:Int)] w fun e w'=>e = .returned (.int .i64 (q:Int))∧w=w'):=by
      have:=uh HEk
      unfold plcO at this
      simp only at this
      rw[hq] at this
      exact this
     rw[hq] at HN
     have hqI:¬ (q:Int) < 0:=by omega
     clear hd hE h39 ht HEk e1 e2 hq
     go_wp2_with fail
     refine (uh HEq).mono ?_
     rintro e w2 ⟨rfl,rfl⟩
     clear HEq
     go_wp2
     go_roundw
     case rel=>exact⟨q,o,hq2,rfl,rfl,by omega,by omega,trivial,HN⟩
     case measure=>simp[intOf]; omega
   ·have h39I:¬ ((s[k].toNat:Nat) : Int)=39:=u8_not h39
    clear HEk
    by_cases h40:s[k]=40
    ·have h40I:((s[k].toNat:Nat) : Int)=40:=u8_is h40
     have HB:Hid (brkO o s[k]=o+1):=by show _=_; unfold brkO; rw[if_pos (.inl h40)]
     by_cases h0:o+1=0
     ·have HN:Hid ((k:Int)+1=R):=by
       show _=_
       rw[← uh hd,hE,clo_hit h39 (by rw[uh HB]; exact h0)]; rfl
      clear hd hE h39 HB h40
      go_wp2
      go_ret
      exact⟨by rw[← uh HN]; congr 2,rfl⟩
     ·have HN:Hid (natO (clo (o+1) (k+1) (dr s (k+1)))=R):=by
       show _=_
       rw[← uh hd,hE,clo_chr h39 (by rw[uh HB]; exact h0),uh HB]
      clear hd hE h39 HB h40
      go_wp2
      go_roundw
      case rel=>exact⟨k+1,o+1,by omega,by go_num,by go_num,by omega,by omega,trivial,HN⟩
      case measure=>simp[intOf]; omega
    ·have h40I:¬ ((s[k].toNat:Nat) : Int)=40:=u8_not h40
     by_cases h91:s[k]=91
     ·have h91I:((s[k].toNat:Nat) : Int)=91:=u8_is h91
      have HB:Hid (brkO o s[k]=o+1):=by show _=_; unfold brkO; rw[if_pos (.inr h91)]
      by_cases h0:o+1=0
      ·have HN:Hid ((k:Int)+1=R):=by
        show _=_
        rw[← uh hd,hE,clo_hit h39 (by rw[uh HB]; exact h0)]; rfl
       clear hd hE h39 HB h40 h91
       go_wp2
       go_ret
       exact⟨by rw[← uh HN]; congr 2,rfl⟩
      ·have HN:Hid (natO (clo (o+1) (k+1) (dr s (k+1)))=R):=by
        show _=_
        rw[← uh hd,hE,clo_chr h39 (by rw[uh HB]; exact h0),uh HB]
       clear hd hE h39 HB h40 h91
       go_wp2
       go_roundw
       case rel=>exact⟨k+1,o+1,by omega,by go_num,by go_num,by omega,by omega,trivial,HN⟩
       case measure=>simp[intOf]; omega
     ·have h91I:¬ ((s[k].toNat:Nat) : Int)=91:=u8_not h91
      by_cases h41:s[k]=41
      ·have h41I:((s[k].toNat:Nat) : Int)=41:=u8_is h41
       have HB:Hid (brkO o s[k]=o - 1):=by show _=_; unfold brkO; rw[if_neg (by rintro (h | h); exact h40 h; exact h91 h),if_pos (.inl h41)]
       by_cases h0:o - 1=0
       ·have HN:Hid ((k:Int)+1=R):=by
         show _=_
         rw[← uh hd,hE,clo_hit h39 (by rw[uh HB]; exact h0)]; rfl
        clear hd hE h39 HB h40 h91 h41
        go_wp2
        go_ret
        exact⟨by rw[← uh HN]; congr 2,rfl⟩
       ·have HN:Hid (natO (clo (o - 1) (k+1) (dr s (k+1)))=R):=by
         show _=_
         rw[← uh hd,hE,clo_chr h39 (by rw[uh HB]; exact h0),uh HB]
        clear hd hE h39 HB h40 h91 h41
        go_wp2
        go_roundw
        case rel=>exact⟨k+1,o - 1,by omega,by go_num,by go_num,by omega,by omega,trivial,HN⟩
        case measure=>simp[intOf]; omega
      ·have h41I:¬ ((s[k].toNat:Nat) : Int)=41:=u8_not h41
       by_cases h93:s[k]=93
       ·have h93I:((s[k].toNat:Nat) : Int)=93:=u8_is h93
        have HB:Hid (brkO o s[k]=o - 1):=by show _=_; unfold brkO; rw[if_neg (by rintro (h | h); exact h40 h; exact h91 h),if_pos (.inr h93)]
        by_cases h0:o - 1=0
        ·have HN:Hid ((k:Int)+1=R):=by
          show _=_
          rw[← uh hd,hE,clo_hit h39 (by rw[uh HB]; exact h0)]; rfl
         clear hd hE h39 HB h40 h91 h41 h93
         go_wp2
         go_ret
         exact⟨by rw[← uh HN]; congr 2,rfl⟩
        ·have HN:Hid (natO (clo (o - 1) (k+1) (dr s (k+1)))=R):=by
          show _=_
          rw[← uh hd,hE,clo_chr h39 (by rw[uh HB]; exact h0),uh HB]
         clear hd hE h39 HB h40 h91 h41 h93
         go_wp2
         go_roundw
         case rel=>exact⟨k+1,o - 1,by omega,by go_num,by go_num,by omega,by omega,trivial,HN⟩
         case measure=>simp[intOf]; omega
       ·have h93I:¬ ((s[k].toNat:Nat) : Int)=93:=u8_not h93
        have HB:Hid (brkO o s[k]=o):=by show _=_; unfold brkO; rw[if_neg (by rintro (h | h); exact h40 h; exact h91 h),if_neg (by rintro (h | h); exact h41 h; exact h93 h)]
        by_cases h0:o=0
        ·have HN:Hid ((k:Int)+1=R):=by
          show _=_
          rw[← uh hd,hE,clo_hit h39 (by rw[uh HB]; exact h0)]; rfl
         clear hd hE h39 HB h40 h91 h41 h93
         subst h0
         have b40:(((s[k].toNat:Nat) : Int) == 40)=false:=beq_eq_false_iff_ne.2 h40I
         have b91:(((s[k].toNat:Nat) : Int) == 91)=false:=beq_eq_false_iff_ne.2 h91I
         have b41:(((s[k].toNat:Nat) : Int) == 41)=false:=beq_eq_false_iff_ne.2 h41I
         have b93:(((s[k].toNat:Nat) : Int) == 93)=false:=beq_eq_false_iff_ne.2 h93I
         go_wp2
         go_ret
         exact⟨by rw[← uh HN]; congr 2,rfl⟩
        ·have HN:Hid (natO (clo (o) (k+1) (dr s (k+1)))=R):=by
          show _=_
          rw[← uh hd,hE,clo_chr h39 (by rw[uh HB]; exact h0),uh HB]
         clear hd hE h39 HB h40 h91 h41 h93
         have b40:(((s[k].toNat:Nat) : Int) == 40)=false:=beq_eq_false_iff_ne.2 h40I
         have b91:(((s[k].toNat:Nat) : Int) == 91)=false:=beq_eq_false_iff_ne.2 h91I
         have b41:(((s[k].toNat:Nat) : Int) == 41)=false:=beq_eq_false_iff_ne.2 h41I
         have b93:(((s[k].toNat:Nat) : Int) == 93)=false:=beq_eq_false_iff_ne.2 h93I
         go_wp2
         go_roundw
         case rel=>exact⟨k+1,o,by omega,by go_num,by go_num,by omega,by omega,trivial,HN⟩
         case measure=>simp[intOf]; omega
  ·have HN:Hid (R = -1):=by
    show _=_
    rw[← uh hd,dr_end (by omega),clo_nil]; rfl
   have hltI:¬ (k:Int) < (s.size:Int):=by omega
   clear hd HE
   go_wp2
   go_ret
   exact⟨by rw[uh HN]; rfl,rfl⟩
end Go.Proofs.YtkjcgkfejdogbaaGreatDoor
