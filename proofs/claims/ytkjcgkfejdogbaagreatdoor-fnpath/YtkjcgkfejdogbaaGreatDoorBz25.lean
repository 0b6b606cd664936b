import Derived.Test.YtkjcgkfejdogbaaGreatDoorBz24
set_option maxRecDepth 100000
set_option maxHeartbeats 8000000
namespace Go.Proofs.YtkjcgkfejdogbaaGreatDoor
open Go.RowKit
def SB (w:World) (g:Nat) (k:Int) (t:ByteArray) (ha hb hc:Bool) (a b c:Int) (q:Value) : Prop:=w.heap[g]?=some (.cells #[.int .i64 k,.string t,.bool ha,.bool hb,.bool hc,.int .i64 a,.int .i64 b,.int .i64 c,q] 40 (0,0))
section
variable {w w':World} {g:Nat} {k:Int} {t:ByteArray} {ha hb hc:Bool} {a b c:Int} {q:Value}
theorem SB.cs (h:SB w g k t ha hb hc a b c q) : w.cell? ⟨g,0,none⟩=some (.int .i64 k)∧w.cell? ⟨g,1,none⟩=some (.string t)∧w.cell? ⟨g,2,none⟩=some (.bool ha)∧w.cell? ⟨g,3,none⟩=some (.bool hb)∧w.cell? ⟨g,4,none⟩=some (.bool hc)∧w.cell? ⟨g,5,none⟩=some (.int .i64 a)∧w.cell? ⟨g,6,none⟩=some (.int .i64 b)∧w.cell? ⟨g,7,none⟩=some (.int .i64 c)∧w.cell? ⟨g,8,none⟩=some q:=
 ⟨Lib.cell_of_heap h 0,Lib.cell_of_heap h 1,Lib.cell_of_heap h 2,Lib.cell_of_heap h 3,Lib.cell_of_heap h 4,Lib.cell_of_heap h 5,Lib.cell_of_heap h 6,Lib.cell_of_heap h 7,Lib.cell_of_heap h 8⟩
theorem SB.fz (h:SB w g k t ha hb hc a b c q) : w.frozen? ⟨g,0,none⟩=false∧w.frozen? ⟨g,1,none⟩=false∧w.frozen? ⟨g,2,none⟩=false∧w.frozen? ⟨g,3,none⟩=false∧w.frozen? ⟨g,4,none⟩=false∧w.frozen? ⟨g,5,none⟩=false∧w.frozen? ⟨g,6,none⟩=false∧w.frozen? ⟨g,7,none⟩=false∧w.frozen? ⟨g,8,none⟩=false:=
 ⟨Lib.frozen_of_heap h 0,Lib.frozen_of_heap h 1,Lib.frozen_of_heap h 2,Lib.frozen_of_heap h 3,Lib.frozen_of_heap h 4,Lib.frozen_of_heap h 5,Lib.frozen_of_heap h 6,Lib.frozen_of_heap h 7,Lib.frozen_of_heap h 8⟩
theorem SB.lt (h:SB w g k t ha hb hc a b c q) : g < w.heap.size:=(Array.getElem?_eq_some_iff.1 h).1
theorem SB.below (h:SB w g k t ha hb hc a b c q) (hl:Below w.heap.size w w') : SB w' g k t ha hb hc a b c q:=(hl.block g h.lt).trans h
theorem SB.other (h:SB w g k t ha hb hc a b c q) {p:Addr} (hp:g≠p.block) (v:Value) : SB (w.setCell p v) g k t ha hb hc a b c q:=(Below.heap_setCell w p v g hp).trans h
theorem SB.setA (h:SB w g k t ha hb hc a b c q) (x:Bool) (n:Int) : SB ((w.setCell ⟨g,2,none⟩ (.bool x)).setCell ⟨g,5,none⟩ (.int .i64 n)) g k t x hb hc n b c q:=Go.heap_setCell_same _ g 5 _ 40 _ (Go.heap_setCell_same w g 2 _ 40 _ h)
theorem SB.setB (h:SB w g k t ha hb hc a b c q) (x:Bool) (n:Int) : SB ((w.setCell ⟨g,3,none⟩ (.bool x)).setCell ⟨g,6,none⟩ (.int .i64 n)) g k t ha x hc a n c q:=Go.heap_setCell_same _ g 6 _ 40 _ (Go.heap_setCell_same w g 3 _ 40 _ h)
theorem SB.setC (h:SB w g k t ha hb hc a b c q) (x:Bool) (n:Int) : SB ((w.setCell ⟨g,4,none⟩ (.bool x)).setCell ⟨g,7,none⟩ (.int .i64 n)) g k t ha hb x a b n q:=Go.heap_setCell_same _ g 7 _ 40 _ (Go.heap_setCell_same w g 4 _ 40 _ h)
theorem SB.set2 (h:SB w g k t ha hb hc a b c q) (x:Bool) : SB (w.setCell ⟨g,2,none⟩ (.bool x)) g k t x hb hc a b c q:=Go.heap_setCell_same w g 2 _ 40 _ h
theorem SB.set3 (h:SB w g k t ha hb hc a b c q) (x:Bool) : SB (w.setCell ⟨g,3,none⟩ (.bool x)) g k t ha x hc a b c q:=Go.heap_setCell_same w g 3 _ 40 _ h
theorem SB.set4 (h:SB w g k t ha hb hc a b c q) (x:Bool) : SB (w.setCell ⟨g,4,none⟩ (.bool x)) g k t ha hb x a b c q:=Go.heap_setCell_same w g 4 _ 40 _ h
end
theorem results_cell_2 {P:Program} {fn:Func} {p r q:Tmp} {ty:TypeId} (h:fn.results=#[.cell p ty,.tmp r,.tmp q]) (tmps:Array Value) (w:World) (g:Nat) (t:TypeId) (cs:Array Value) (fr:Nat×Nat) (d:TypeDesc) (v u:Value)
  (hp:tmps.getD p undef = .pointer (some ⟨g,0,none⟩)) (hr:tmps.getD r undef=v) (hq:tmps.getD q undef=u) (hg:w.heap[g]?=some (.cells cs t fr))
  (hu:P.underlying ty=some d) (hd:(match d with | .struct _ | .array _ _=>true | _=>false)=true) (hi:(P.info? ty).map (·.size)=some cs.size) :
  (results fn tmps).run P w = .ok (.tuple #[.agg cs,v,u]) w:=results_cell_two h tmps w g t cs fr d v u hp hr hq hg hu hd hi
theorem orow_empty {α:Type} (e:Elem α) (w:World) : ORow e (w.alloc (.cells #[] e.T)) (.slice (some ⟨w.heap.size,0,none⟩) 0 0) [] [w.heap.size]:=
 ⟨[],rfl,fun _ _ _ h=>by simp at h,own_mono (empty_row w e.T e.wd) (Nat.zero_le _),by simp[Value.ownBlock]⟩
def SRet (w:World) (R:Option XS) (e:Ending) (w':World) : Prop:=
 Below w.heap.size w w'∧∃ (o:PSel) (qa:Option Addr) (ql qc:Nat) (d:Int),e = .returned (.tuple #[.agg #[.int .i64 o.k,.string o.name,.bool o.hasA,.bool o.hasB,.bool o.hasC,.int .i64 o.a,.int .i64 o.b,.int .i64 o.c,.slice qa ql qc],.bool R.isSome,.int .i64 d]) ∧
  ∀ x,R=some x→o=x.1∧d=(x.2:Int)∧∃ bl,ORow fopE w' (.slice qa ql qc) o.cond bl∧Fsh w.heap.size bl
theorem SRet.lit {w w':World} {R:Option XS} {k:Int} {t:ByteArray} {ha hb hc:Bool} {a b c:Int} (hl:Below w.heap.size w w') (hR:R=some (⟨k,t,ha,hb,hc,a,b,c,[]⟩,0)) : SRet w R (.returned (.tuple #[.agg #[.int .i64 k,.string t,.bool ha,.bool hb,.bool hc,.int .i64 a,.int .i64 b,.int .i64 c,.slice none 0 0],.bool true,.int .i64 0])) w':=
 ⟨hl,⟨k,t,ha,hb,hc,a,b,c,[]⟩,none,0,0,0,by rw[hR]; rfl,fun x hx=>by rw[hR] at hx; injection hx with hx; subst hx; exact⟨rfl,rfl,[],ORow.nil _ _,Fsh.nil _⟩⟩
theorem SRet.bad {w w':World} {R:Option XS} {k:Int} {t:ByteArray} {ha hb hc:Bool} {a b c d:Int} {qa:Option Addr} {ql qc:Nat} (hl:Below w.heap.size w w') (hR:R=none) : SRet w R (.returned (.tuple #[.agg #[.int .i64 k,.string t,.bool ha,.bool hb,.bool hc,.int .i64 a,.int .i64 b,.int .i64 c,.slice qa ql qc],.bool false,.int .i64 d])) w':=
 ⟨hl,⟨k,t,ha,hb,hc,a,b,c,[]⟩,qa,ql,qc,d,by rw[hR]; rfl,fun x hx=>by rw[hR] at hx; cases hx⟩
def SUp (ps:List Bs) (k:Nat) (a b c:Bool×Int) : Prop:=(∀ p,ps[0]?=some p→0 < k→sMI p=some a)∧(∀ p,ps[1]?=some p→1 < k→sMI p=some b)∧(∀ p,ps[2]?=some p→2 < k→sMI p=some c)∧(k≤0→a=(false,0))∧(k≤1→b=(false,0))∧(k≤2→c=(false,0))
def slcP (ps:List Bs) : Option PSel:=match ps with
 | [p,q]=>(match sMI p,sMI q with
  | some a,some b=>some (slcS a b (false,0))
  | _,_=>none)
 | [p,q,w]=>(match sMI p,sMI q,sMI w with
  | some a,some b,some c=>some (slcS a b c)
  | _,_,_=>none)
 | _=>none
theorem slcP_far {ps:List Bs} (h:¬ (ps.length=2∨ps.length=3)) : slcP ps=none:=by
 unfold slcP
 split
 ·exact absurd (.inl rfl) h
 ·exact absurd (.inr rfl) h
 ·rfl
theorem SUp.no {ps:List Bs} {k:Nat} (hk:k < ps.length) (hp:sMI ps[k]=none) : slcP ps=none:=by
 unfold slcP
 split
 ·rename_i p q
  match k,hk,hp with
  | 0,_,hp=>rw[show sMI p=none from hp]
  | 1,_,hp=>rw[show sMI q=none from hp]; cases sMI p <;> rfl
 ·rename_i p q w
  match k,hk,hp with
  | 0,_,hp=>rw[show sMI p=none from hp]
  | 1,_,hp=>rw[show sMI q=none from hp]; cases sMI p <;> rfl
  | 2,_,hp=>rw[show sMI w=none from hp]; cases sMI p <;> cases sMI q <;> rfl
 ·rfl
theorem SUp.fin {ps:List Bs} {k:Nat} {a b c:Bool×Int} (h:SUp ps k a b c) (hl:ps.length=2∨ps.length=3) (hk:ps.length≤k) (hk2:k≤ps.length) : slcP ps=some (slcS a b c):=by
 obtain⟨h1,h2,h3,h4,h5,h6⟩:=h
 match ps,hl,h1,h2,h3,hk,hk2 with
 | [p,q],_,h1,h2,_,hk,hk2=>
  have e1:=h1 p rfl (by simp at hk; omega)
  have e2:=h2 q rfl (by simp at hk; omega)
  have e3:=h6 (by simp at hk2; omega)
  show (match sMI p,sMI q with | some a,some b=>some (slcS a b (false,0)) | _,_=>none)=_
  rw[e1,e2,e3]
 | [p,q,w],_,h1,h2,h3,hk,hk2=>
  have e1:=h1 p rfl (by simp at hk; omega)
  have e2:=h2 q rfl (by simp at hk; omega)
  have e3:=h3 w rfl (by simp at hk; omega)
  show (match sMI p,sMI q,sMI w with | some a,some b,some c=>some (slcS a b c) | _,_,_=>none)=_
  rw[e1,e2,e3]
 | [],hl,_,_,_,_,_=>simp at hl
 | [p],hl,_,_,_,_,_=>simp at hl
 | p :: q :: r :: t :: u,hl,_,_,_,_,_=>simp at hl
theorem SUp.start (ps:List Bs) : SUp ps 0 (false,0) (false,0) (false,0):=⟨fun _ _ h=>by omega,fun _ _ h=>by omega,fun _ _ h=>by omega,fun _=>rfl,fun _=>rfl,fun _=>rfl⟩
theorem SUp.n0 {ps:List Bs} {a b c x:Bool×Int} (h:SUp ps 0 a b c) (hk:0 < ps.length) (hp:sMI ps[0]=some x) : SUp ps 1 x b c:=
 ⟨fun p hq _=>by rw[List.getElem?_eq_getElem hk] at hq; injection hq with hq; rw[← hq]; exact hp,fun _ _ h=>by omega,fun _ _ h=>by omega,fun h=>by omega,fun _=>h.2.2.2.2.1 (by omega),fun _=>h.2.2.2.2.2 (by omega)⟩
theorem SUp.n1 {ps:List Bs} {a b c x:Bool×Int} (h:SUp ps 1 a b c) (hk:1 < ps.length) (hp:sMI ps[1]=some x) : SUp ps 2 a x c:=
 ⟨fun p hq _=>h.1 p hq (by omega),fun p hq _=>by rw[List.getElem?_eq_getElem hk] at hq; injection hq with hq; rw[← hq]; exact hp,fun _ _ h=>by omega,fun h=>by omega,fun h=>by omega,fun _=>h.2.2.2.2.2 (by omega)⟩
theorem SUp.n2 {ps:List Bs} {a b c x:Bool×Int} (h:SUp ps 2 a b c) (hk:2 < ps.length) (hp:sMI ps[2]=some x) : SUp ps 3 a b x:=
 ⟨fun p hq _=>h.1 p hq (by omega),fun p hq _=>h.2.1 p hq (by omega),fun p hq _=>by rw[List.getElem?_eq_getElem hk] at hq; injection hq with hq; rw[← hq]; exact hp,fun h=>by omega,fun h=>by omega,fun h=>by omega⟩
theorem sMI_parts (p:Bs) : (sMI p=none↔(sInt p).isSome=false∧p≠[])∧∀ x,sMI p=some x→x=((sInt p).isSome,(sInt p).getD 0):=by
 cases p with
 | nil=>exact⟨by simp[sMI],fun x hx=>by injection hx with hx; rw[← hx]; rfl⟩
 | cons c r=>
  have e:sMI (c :: r)=(sInt (c :: r)).map fun n=>(true,n):=rfl
  rw[e]
  cases sInt (c :: r) with
  | none=>simp
  | some n=>simp
theorem spl1_piece {c:UInt8} {l:Bs} : ∀ p∈spl c [] 0 [] l,p.length≤l.length:=by
 have hj:=spl_jn c [] l 0 []
 rw[List.nil_append] at hj
 generalize spl c [] 0 [] l=ps at *
 have key:∀ (ps:List Bs) (p:Bs),p∈ps→p.length≤(jn [c] ps).length:=fun ps=>by
  induction ps with
  | nil=>intro p hp; simp at hp
  | cons a r ih=>
   intro p hp
   cases r with
   | nil=>simp at hp; subst hp; simp[jn]
   | cons b t=>
    rw[jn_cons (by simp),List.length_append,List.length_append]
    rcases List.mem_cons.1 hp with rfl | hp
    ·omega
    ·have:=ih p hp; omega
 intro p hp
 have:=key ps p hp
 rw[hj.2] at this
 exact this
structure SlS (w w2 wr:World) (tv:Value) (ps:List Bs) (a b c:Bool×Int) : Prop where
 bel:Below w.heap.size w wr
 r2:SB wr w.heap.size 0 ⟨#[]⟩ false false false 0 0 0 (.slice none 0 0)
 ro:SB wr w2.heap.size 4 ⟨#[]⟩ a.1 b.1 c.1 a.2 b.2 c.2 (.slice none 0 0)
 ts:TS wr w.heap.size tv ps
 nt:tv.ownBlock≠some w2.heap.size
 lt:w.heap.size < w2.heap.size
theorem SlS.set {w w2 wr:World} {tv:Value} {ps:List Bs} {a b c x y z:Bool×Int} (h:SlS w w2 wr tv ps a b c) {i j:Nat} {u v:Value} (ho:SB ((wr.setCell ⟨w2.heap.size,i,none⟩ u).setCell ⟨w2.heap.size,j,none⟩ v) w2.heap.size 4 ⟨#[]⟩ x.1 y.1 z.1 x.2 y.2 z.2 (.slice none 0 0)) :
  SlS w w2 ((wr.setCell ⟨w2.heap.size,i,none⟩ u).setCell ⟨w2.heap.size,j,none⟩ v) tv ps x y z:=by
 have hl:=h.lt
 have hk:∀ b,b≠w2.heap.size→((wr.setCell ⟨w2.heap.size,i,none⟩ u).setCell ⟨w2.heap.size,j,none⟩ v).heap[b]?=wr.heap[b]?:=fun b hb=>(Below.heap_setCell _ _ _ b hb).trans (Below.heap_setCell _ _ _ b hb)
 refine⟨(h.bel.setCell (by show _≤w2.heap.size; omega) _).setCell (by show _≤w2.heap.size; omega) _,(h.r2.other (by show _≠w2.heap.size; omega) _).other (by show _≠w2.heap.size; omega) _,ho,own_keep h.ts fun b hb=>hk b fun e=>h.nt ?_,h.nt,h.lt⟩
 rw[← e]; simpa using hb
theorem sel_walk (n:Nat) (s:ByteArray) (w:World) (hn:s.size < n) (hs:s.size≤1000000) : Calls Tryz.prog 43 #[.string s] w (SRet w (sSel n s.data.toList)):=by
 have hA:SB (w.alloc (.cells #[.int .i64 0,.string ⟨#[]⟩,.bool false,.bool false,.bool false,.int .i64 0,.int .i64 0,.int .i64 0,.slice none 0 0] 40)) w.heap.size 0 ⟨#[]⟩ false false false 0 0 0 (.slice none 0 0):=heap_alloc_new w _
 have hB:=al_b w (.cells #[.int .i64 0,.string ⟨#[]⟩,.bool false,.bool false,.bool false,.int .i64 0,.int .i64 0,.int .i64 0,.slice none 0 0] 40)
 have hZ:(w.alloc (.cells #[.int .i64 0,.string ⟨#[]⟩,.bool false,.bool false,.bool false,.int .i64 0,.int .i64 0,.int .i64 0,.slice none 0 0] 40)).heap.size=w.heap.size+1:=by simp
 by_cases h42:s.data.toList=[42]
 ·have HR:Hid (sSel n s.data.toList=some (allS,0)):=by show _=_; unfold sSel; rw[if_pos h42]
  have t1:(s.toList == [42])=true:=by rw[beq_iff_eq,ByteArray.toList_eq]; exact h42
  clear h42 hA hB hZ
  go_enter Tryz.func43,Tryz.ntmps43
  go_wp2
  go_returns
  exact SRet.lit (al_b w _) (uh HR)
 ·have t1:(s.toList == [42])=false:=by rw[beq_eq_false_iff_ne,ByteArray.toList_eq]; exact h42
  by_cases h63:∃ h0:0 < s.size,s[0]=63
  ·obtain⟨h0,h63⟩:=h63
   have e:=dr_at h0
   rw[dr_zero] at e
   have HR:Hid (sSel n s.data.toList=(sCdOf (sPr n) (dr s 1)).map fun p=>(filS p.1,p.2)):=by
    show _=_
    unfold sSel
    rw[if_neg h42,if_pos (by rw[e,h63]; rfl)]
    rw[show s.data.toList.tail=dr s 1 by rw[e]; rfl]
   have b63:(((s[0].toNat:Nat) : Int) == 63)=true:=eq_t h63
   have h0I:(0:Int) < (s.size:Int):=by omega
   have h1I:(1:Int)≤(s.size:Int):=by omega
   have hal:=al_b (w.alloc (.cells #[.int .i64 0,.string ⟨#[]⟩,.bool false,.bool false,.bool false,.int .i64 0,.int .i64 0,.int .i64 0,.slice none 0 0] 40)) (.cells #[] 37)
   have hro:=orow_empty fopE (w.alloc (.cells #[.int .i64 0,.string ⟨#[]⟩,.bool false,.bool false,.bool false,.int .i64 0,.int .i64 0,.int .i64 0,.slice none 0 0] 40))
   have hA2:=hA.below hal
   have hB2:=below_next hB hal
   rw[hZ] at hro
   have HC:=hide (cond_walk n (s.extract 1 s.size) _ _ _ (w.heap.size+1) _ (by simp; omega) (by simp; omega) hro ⟨by simp,by simp⟩ (by rw[← hZ]; exact hal.size) (by simp; omega))
   rw[dr_ext] at HC
   have HA:=hide hA2
   have HB:=hide hB2
   clear e h63 h42 hA hB hal hro hA2 hB2 hZ
   go_enter Tryz.func43,Tryz.ntmps43
   go_wp2_with fail
   refine (uh HC).mono ?_
   rintro e w1 ⟨b1,s1,v1,ok,d,rfl,hno,hyes⟩
   have HA1:Hid (SB w1 w.heap.size 0 ⟨#[]⟩ false false false 0 0 0 (.slice none 0 0)):=(b1.block _ (by omega)).trans (uh HA)
   have HB1:Hid (Below w.heap.size w w1):=(uh HB).trans (b1.mono (by omega))
   obtain⟨c0,c1,c2,c3,c4,c5,c6,c7,c8⟩:=(uh HA1).cs
   obtain⟨f0,f1,f2,f3,f4,f5,f6,f7,f8⟩:=(uh HA1).fz
   clear HC HA HB b1 s1
   cases hp:sCdOf (sPr n) (dr s 1) with
   | none=>
    obtain⟨rfl,hany⟩:=hno hp
    have HR2:Hid (sSel n s.data.toList=none):=by show _=_; rw[uh HR,hp]; rfl
    obtain⟨ya,yl,yc,rfl⟩:=hany.form
    clear hno hyes hp hany HR
    go_wp2
    refine bodyPost_ret (results_cell_2 rfl _ _ w.heap.size 40 #[_,_,_,_,_,_,_,_,_] (0,0) _ _ _ rfl rfl rfl (putN_full (uh HA1) [_,_,_,_,_,_,_,_,_] rfl) Tryz.underlying40 rfl (by kernel_rfl)) rfl ?_
    exact SRet.bad (putN_below (uh HB1) (Nat.le_refl _) [_,_,_,_,_,_,_,_,_] 0) (uh HR2)
   | some x=>
    obtain⟨rfl,rfl,-,bl,row,fsh,-⟩:=hyes x hp
    have HR2:Hid (sSel n s.data.toList=some (filS x.1,x.2)):=by show _=_; rw[uh HR,hp]; rfl
    obtain⟨ya,yc,rfl,-,-⟩:=row.form
    rw[List.nil_append] at row
    have HROW:=hide row
    have HFSH:=hide fsh
    clear hno hyes hp HR row fsh
    rw[List.nil_append]
    go_wp2
    refine bodyPost_ret (results_cell_2 rfl _ _ w.heap.size 40 #[_,_,_,_,_,_,_,_,_] (0,0) _ _ _ rfl rfl rfl (putN_full (uh HA1) [_,_,_,_,_,_,_,_,_] rfl) Tryz.underlying40 rfl (by kernel_rfl)) rfl ?_
    refine⟨putN_below (uh HB1) (Nat.le_refl _) [_,_,_,_,_,_,_,_,_] 0,filS x.1,ya,_,yc,_,by rw[uh HR2]; rfl,fun z hz=>?_⟩
    rw[uh HR2] at hz
    injection hz with hz
    subst hz
    exact⟨rfl,rfl,bl,(uh HROW).putN (fun hb=>by have:=(uh HFSH).2 _ hb; omega) [_,_,_,_,_,_,_,_,_] 0,(uh HFSH).mono (by omega)⟩
  ·have HR:Hid (sSel n s.data.toList=match sStr s.data.toList with
     | some v=>some (nameS v,0)
     | none=>match sInt s.data.toList with
      | some m=>some (idxS m,0)
      | none=>(sSlc s.data.toList).map fun x=>(x,0)):=by
    show _=_
    have hne:¬ s.data.toList.head?=some 63:=by
     intro hh
     by_cases h0:0 < s.size
     ·have e:=dr_at h0
      rw[dr_zero] at e
      rw[e] at hh
      injection hh with hh
      exact h63 ⟨h0,hh⟩
     ·have:s.data.toList=[]:=List.eq_nil_of_length_eq_zero (by rw[data_len]; omega)
      rw[this] at hh; cases hh
    unfold sSel
    rw[if_neg h42,if_neg hne]
    rfl
   have HI:=hide fun w=>int_walk s w (by omega)
   have HS:=hide fun w=>str_walk s w (by omega)
   have HA:=hide hA
   have HB:=hide hB
   have H63:=hide h63
   clear hA hB h42 h63
   go_enter Tryz.func43,Tryz.ntmps43
   go_upto_region 3 with fail
   go_cut [27] from 20 to 27 (fun x wx=>x = .bool false∧wx=w.alloc (.cells #[.int .i64 0,.string ⟨#[]⟩,.bool false,.bool false,.bool false,.int .i64 0,.int .i64 0,.int .i64 0,.slice none 0 0] 40))
   case first=>
    by_cases h0:0 < s.size
    ·have b63:(((s[0].toNat:Nat) : Int) == 63)=false:=eq_f (d:=63) fun h=>uh H63 ⟨h0,h⟩
     have h0I:(0:Int) < (s.size:Int):=by omega
     go_wp2
     go_meet
     case rel=>exact⟨rfl,rfl⟩
    ·have h0I:¬ (0:Int) < (s.size:Int):=by omega
     go_wp2
     go_meet
     case rel=>exact⟨rfl,rfl⟩
   obtain⟨rfl,rfl⟩:=hcut
   clear H63
   go_wp2_with fail
   refine (uh HS _).mono ?_
   rintro e w1 ⟨rfl,b1⟩
   have HA1:=hide ((uh HA).below b1)
   have HB1:=hide (below_next (uh HB) b1)
   have hz1:=b1.size
   rw[hZ] at hz1
   obtain⟨c0,c1,c2,c3,c4,c5,c6,c7,c8⟩:=(uh HA1).cs
   obtain⟨f0,f1,f2,f3,f4,f5,f6,f7,f8⟩:=(uh HA1).fz
   clear HS HA HB b1 hZ
   cases ht:sStr s.data.toList with
   | some v=>
    have HR2:Hid (sSel n s.data.toList=some (nameS v,0)):=by show _=_; rw[uh HR,ht]
    have e:strV (some v) = .tuple #[.string (bsT v),.bool true]:=rfl
    rw[e]
    clear e ht HR HI
    go_wp2
    refine bodyPost_ret (results_cell_2 rfl _ _ w.heap.size 40 #[_,_,_,_,_,_,_,_,_] (0,0) _ _ _ rfl rfl rfl (putN_full (uh HA1) [_,_,_,_,_,_,_,_,_] rfl) Tryz.underlying40 rfl (by kernel_rfl)) rfl ?_
    exact SRet.lit (putN_below (uh HB1) (Nat.le_refl _) [_,_,_,_,_,_,_,_,_] 0) (uh HR2)
   | none=>
    have e:strV none = .tuple #[.string (bsT []),.bool false]:=rfl
    rw[e]
    clear e
    go_wp2_with fail
    refine (uh HI _).mono ?_
    rintro e w2 ⟨rfl,rfl⟩
    clear HI
    cases hi:sInt s.data.toList with
    | some m=>
     have HR2:Hid (sSel n s.data.toList=some (idxS m,0)):=by show _=_; rw[uh HR,ht,hi]
     have e:intV (some m) = .tuple #[.int .i64 m,.bool true]:=rfl
     rw[e]
     clear e ht HR hi
     go_wp2
     refine bodyPost_ret (results_cell_2 rfl _ _ w.heap.size 40 #[_,_,_,_,_,_,_,_,_] (0,0) _ _ _ rfl rfl rfl (putN_full (uh HA1) [_,_,_,_,_,_,_,_,_] rfl) Tryz.underlying40 rfl (by kernel_rfl)) rfl ?_
     exact SRet.lit (putN_below (uh HB1) (Nat.le_refl _) [_,_,_,_,_,_,_,_,_] 0) (uh HR2)
    | none=>
     have HR2:Hid (sSel n s.data.toList=(slcP (spl 58 [] 0 [] s.data.toList)).map fun x=>(x,0)):=by show _=_; rw[uh HR,ht,hi]; rfl
     have e:intV none = .tuple #[.int .i64 0,.bool false]:=rfl
     rw[e]
     have HSP:=hide (split2_walk s ⟨#[58]⟩ 58 [] w1 (by omega) rfl (by decide))
     have HPS:Hid (∀ p∈spl 58 [] 0 [] s.data.toList,p.length≤s.size):=fun p hp=>by
      have:=spl1_piece (c:=58) (l:=s.data.toList) p hp
      rw[data_len] at this
      exact this
     generalize spl 58 [] 0 [] s.data.toList=ps at *
     generalize sSel n s.data.toList=RR at *
     clear e ht HR hi
     go_wp2_with fail
     refine (uh HSP).mono ?_
     rintro e w2 ⟨tv,rfl,hts,b2⟩
     have hz2:=b2.size
     have hal:=al_b w2 (.cells #[.int .i64 4,.string ⟨#[]⟩,.bool false,.bool false,.bool false,.int .i64 0,.int .i64 0,.int .i64 0,.slice none 0 0] 40)
     have S0:Hid (SlS w w2 (w2.alloc (.cells #[.int .i64 4,.string ⟨#[]⟩,.bool false,.bool false,.bool false,.int .i64 0,.int .i64 0,.int .i64 0,.slice none 0 0] 40)) tv ps (false,0) (false,0) (false,0)):=
      ⟨below_next (below_next (uh HB1) b2) hal,((uh HA1).below b2).below hal,heap_alloc_new w2 _,own_mono (own_below hts hal) (by omega),fun e=>(by have:=(World.ownsRow.lt hts _ e).2; omega),by omega⟩
     obtain⟨ta,tc,rfl,-⟩:=hts.cells
     clear hts b2 hal HSP HA1 HB1 c0 c1 c2 c3 c4 c5 c6 c7 c8 f0 f1 f2 f3 f4 f5 f6 f7 f8
     go_upto_region 14 with fail
     generalize (w2.alloc (.cells #[.int .i64 4,.string ⟨#[]⟩,.bool false,.bool false,.bool false,.int .i64 0,.int .i64 0,.int .i64 0,.slice none 0 0] 40))=wA at *
     go_cut [66] from 59 to 66 (fun x wx=>x = .bool (decide (¬ (ps.length=2∨ps.length=3)))∧wx=wA)
     case first=>
      by_cases h2:ps.length < 2
      ·have h2I:(ps.length:Int) < 2:=by omega
       have HV:Hid (decide (¬ (ps.length=2∨ps.length=3))=true):=by show _=_; rw[decide_eq_true]; omega
       go_wp2
       go_meet
       case rel=>exact⟨by rw[uh HV],rfl⟩
      ·have h2I:¬ (ps.length:Int) < 2:=by omega
       by_cases h3:3 < ps.length
       ·have h3I:(3:Int) < (ps.length:Int):=by omega
        have HV:Hid (decide (¬ (ps.length=2∨ps.length=3))=true):=by show _=_; rw[decide_eq_true]; omega
        go_wp2
        go_meet
        case rel=>exact⟨by rw[uh HV],rfl⟩
       ·have h3I:¬ (3:Int) < (ps.length:Int):=by omega
        have HV:Hid (decide (¬ (ps.length=2∨ps.length=3))=false):=by show _=_; rw[decide_eq_false]; omega
        go_wp2
        go_meet
        case rel=>exact⟨by rw[uh HV],rfl⟩
     obtain⟨rfl,rfl⟩:=hcut
     by_cases hl:ps.length=2∨ps.length=3
     ·rw[decide_eq_false (by omega)]
      have hl3:ps.length≤3:=by omega
      have HL:=hide hl
      clear hl
      go_wp2
      go_loopw [14] (fun iv wr=>∃ (k:Nat) (a b c:Bool×Int),k≤ps.length∧iv = .int .i64 (k:Int)∧Hid (SUp ps k a b c)∧Hid (SlS w w2 wr (.slice ta ps.length tc) ps a b c)) (fun iv _=>ps.length - (intOf iv).toNat)
      case atStart=>exact⟨0,(false,0),(false,0),(false,0),Nat.zero_le _,rfl,SUp.start ps,S0⟩
      case round=>
       obtain⟨k,a,b,c,hk,rfl,hu,hss⟩:=hrel
       clear S0
       obtain⟨c0,c1,c2,c3,c4,c5,c6,c7,c8⟩:=(uh hss).r2.cs
       obtain⟨f0,f1,f2,f3,f4,f5,f6,f7,f8⟩:=(uh hss).r2.fz
       by_cases hlt:k < ps.length
       ·have hltI:(k:Int) < (ps.length:Int):=by omega
        obtain⟨tb',tc',htv,hcell⟩:=(uh hss).ts.cells
        obtain⟨gp,hgp,hc⟩:=hcell k hlt
        have htb:ta=some ⟨gp,0,none⟩:=by injection htv with h1 _ _; rw[h1]; exact hgp
        subst htb
        have hpz:(bsT ps[k]).size=ps[k].length:=by simp[bsT,ByteArray.size]
        have hpd:(bsT ps[k]).data.toList=ps[k]:=by simp[bsT]
        have hpl:(bsT ps[k]).toList=ps[k]:=by rw[ByteArray.toList_eq]; exact hpd
        have hpk:=uh HPS ps[k] (List.getElem_mem hlt)
        have HIW:=hide (int_walk (bsT ps[k]) wr (by omega))
        rw[hpd] at HIW
        have e:intV (sInt ps[k]) = .tuple #[.int .i64 ((sInt ps[k]).getD 0),.bool (sInt ps[k]).isSome]:=rfl
        rw[e] at HIW
        obtain⟨hm1,hm2⟩:=sMI_parts ps[k]
        obtain⟨q0,q1,q2,q3,q4,q5,q6,q7,q8⟩:=(uh hss).ro.cs
        obtain⟨g0,g1,g2,g3,g4,g5,g6,g7,g8⟩:=(uh hss).ro.fz
        have HM1:=hide hm1
        have HM2:=hide hm2
        have HPL:=hide hpl
        clear hcell htv hgp hpz hpd hpl hm1 hm2 e hpk
        go_wp2_with fail
        refine (uh HIW).mono ?_
        rintro e w3 ⟨rfl,rfl⟩
        clear HIW
        obtain⟨ok,hok⟩ : ∃ ok,(sInt ps[k]).isSome=ok:=⟨_,rfl⟩
        obtain⟨vv,hvv⟩ : ∃ v,(sInt ps[k]).getD 0=v:=⟨_,rfl⟩
        rw[hok,hvv] at HM2 ⊢
        rw[hok] at HM1
        clear hok hvv
        go_upto_region 20 with fail
        go_cut [90] from 82 to 90 (fun x wx=>x = .bool (decide (ok=false∧ps[k]≠[]))∧wr=wx)
        case first=>
         cases ok with
         | true=>
          have HV:Hid (decide (true=false∧ps[k]≠[])=false):=by show _=_; simp
          go_wp2
          go_meet
          case rel=>exact⟨by rw[uh HV],rfl⟩
         | false=>
          by_cases hpe:ps[k]=[]
          ·have HV:Hid (decide (false=false∧ps[k]≠[])=false):=by show _=_; simp[hpe]
           have HE:Hid ((bsT ps[k]).toList.isEmpty=true):=by show _=_; rw[uh HPL,hpe]; rfl
           clear hpe
           go_wp2
           go_meet
           case rel=>exact⟨by rw[uh HE]; exact congrArg Value.bool (uh HV).symm,rfl⟩
          ·have HV:Hid (decide (false=false∧ps[k]≠[])=true):=by show _=_; simp[hpe]
           have HE:Hid ((bsT ps[k]).toList.isEmpty=false):=by show _=_; rw[uh HPL]; cases h:ps[k] with
            | nil=>exact absurd h hpe
            | cons _ _=>rfl
           clear hpe
           go_wp2
           go_meet
           case rel=>exact⟨by rw[uh HE]; exact congrArg Value.bool (uh HV).symm,rfl⟩
        obtain⟨rfl,rfl⟩:=hcut
        cases hsm:sMI ps[k] with
        | none=>
         have hb:=(uh HM1).1 hsm
         rw[decide_eq_true hb]
         have HR3:Hid (RR=none):=by show _=_; rw[uh HR2,SUp.no hlt hsm]; rfl
         clear hb hsm HM1 HM2 HPL
         go_wp2
         try simp only[Exit.inBlock,Exit.then]
         refine bodyPost_ret (results_cell_2 rfl _ _ w.heap.size 40 #[_,_,_,_,_,_,_,_,_] (0,0) _ _ _ rfl rfl rfl (putN_full (uh hss).r2 [_,_,_,_,_,_,_,_,_] rfl) Tryz.underlying40 rfl (by kernel_rfl)) rfl ?_
         exact SRet.bad (putN_below (uh hss).bel (Nat.le_refl _) [_,_,_,_,_,_,_,_,_] 0) (uh HR3)
        | some x=>
         have hb:¬ (ok=false∧ps[k]≠[]):=fun h=>by rw[(uh HM1).2 h] at hsm; cases hsm
         rw[decide_eq_false hb]
         have hx:=uh HM2 x hsm
         subst hx
         have HSM:=hide hsm
         have hk3:k=0∨k=1∨k=2:=by omega
         clear hb hsm HM1 HM2 HPL
         rcases hk3 with rfl | rfl | rfl
         ·have HNX:=hide ((uh hu).n0 hlt (uh HSM))
          have HS3:=hide ((uh hss).set (x:=(ok,vv)) (y:=b) (z:=c) ((uh hss).ro.setA ok vv))
          obtain⟨p0,p1,p2,p3,p4,p5,p6,p7,p8⟩:=((uh hss).ro.set2 ok).cs
          obtain⟨o0,o1,o2,o3,o4,o5,o6,o7,o8⟩:=((uh hss).ro.set2 ok).fz
          go_wp2
          go_roundw
          case rel=>exact⟨1,_,_,_,by omega,rfl,HNX,HS3⟩
          case measure=>simp[intOf]; omega
         ·have HNX:=hide ((uh hu).n1 hlt (uh HSM))
          have HS3:=hide ((uh hss).set (x:=a) (y:=(ok,vv)) (z:=c) ((uh hss).ro.setB ok vv))
          obtain⟨p0,p1,p2,p3,p4,p5,p6,p7,p8⟩:=((uh hss).ro.set3 ok).cs
          obtain⟨o0,o1,o2,o3,o4,o5,o6,o7,o8⟩:=((uh hss).ro.set3 ok).fz
          go_wp2
          go_roundw
          case rel=>exact⟨2,_,_,_,by omega,rfl,HNX,HS3⟩
          case measure=>simp[intOf]; omega
         ·have HNX:=hide ((uh hu).n2 hlt (uh HSM))
          have HS3:=hide ((uh hss).set (x:=a) (y:=b) (z:=(ok,vv)) ((uh hss).ro.setC ok vv))
          obtain⟨p0,p1,p2,p3,p4,p5,p6,p7,p8⟩:=((uh hss).ro.set4 ok).cs
          obtain⟨o0,o1,o2,o3,o4,o5,o6,o7,o8⟩:=((uh hss).ro.set4 ok).fz
          go_wp2
          go_roundw
          case rel=>exact⟨3,_,_,_,by omega,rfl,HNX,HS3⟩
          case measure=>simp[intOf]; omega
       ·have hltI:¬ (k:Int) < (ps.length:Int):=by omega
        have HR3:Hid (RR=some (slcS a b c,0)):=by show _=_; rw[uh HR2,(uh hu).fin (uh HL) (by omega) hk]; rfl
        obtain⟨q0,q1,q2,q3,q4,q5,q6,q7,q8⟩:=(uh hss).ro.cs
        clear hu
        go_wp2
        try simp only[Exit.inBlock,Exit.then]
        refine bodyPost_ret (results_cell_2 rfl _ _ w.heap.size 40 #[_,_,_,_,_,_,_,_,_] (0,0) _ _ _ rfl rfl rfl (putN_full (uh hss).r2 [_,_,_,_,_,_,_,_,_] rfl) Tryz.underlying40 rfl (by kernel_rfl)) rfl ?_
        exact SRet.lit (putN_below (uh hss).bel (Nat.le_refl _) [_,_,_,_,_,_,_,_,_] 0) (uh HR3)
     ·rw[decide_eq_true hl]
      have HR3:Hid (RR=none):=by show _=_; rw[uh HR2,slcP_far hl]; rfl
      obtain⟨c0,c1,c2,c3,c4,c5,c6,c7,c8⟩:=(uh S0).r2.cs
      obtain⟨f0,f1,f2,f3,f4,f5,f6,f7,f8⟩:=(uh S0).r2.fz
      obtain⟨q0,q1,q2,q3,q4,q5,q6,q7,q8⟩:=(uh S0).ro.cs
      clear hl
      go_wp2
      refine bodyPost_ret (results_cell_2 rfl _ _ w.heap.size 40 #[_,_,_,_,_,_,_,_,_] (0,0) _ _ _ rfl rfl rfl (putN_full (uh S0).r2 [_,_,_,_,_,_,_,_,_] rfl) Tryz.underlying40 rfl (by kernel_rfl)) rfl ?_
      exact SRet.bad (putN_below (uh S0).bel (Nat.le_refl _) [_,_,_,_,_,_,_,_,_] 0) (uh HR3)
def GB (w:World) (g:Nat) (d:Bool) (q:Value) : Prop:=w.heap[g]?=some (.cells #[.bool d,q] 43 (0,0))
section
variable {w w':World} {g:Nat} {d:Bool} {q:Value}
theorem GB.cs (h:GB w g d q) : w.cell? ⟨g,0,none⟩=some (.bool d)∧w.cell? ⟨g,1,none⟩=some q:=⟨Lib.cell_of_heap h 0,Lib.cell_of_heap h 1⟩
theorem GB.fz (h:GB w g d q) : w.frozen? ⟨g,0,none⟩=false∧w.frozen? ⟨g,1,none⟩=false:=⟨Lib.frozen_of_heap h 0,Lib.frozen_of_heap h 1⟩
theorem GB.lt (h:GB w g d q) : g < w.heap.size:=(Array.getElem?_eq_some_iff.1 h).1
theorem GB.below (h:GB w g d q) (hl:Below w.heap.size w w') : GB w' g d q:=(hl.block g h.lt).trans h
theorem GB.other (h:GB w g d q) {p:Addr} (hp:g≠p.block) (v:Value) : GB (w.setCell p v) g d q:=(Below.heap_setCell w p v g hp).trans h
theorem GB.set1 (h:GB w g d q) (q':Value) : GB (w.setCell ⟨g,1,none⟩ q') g d q':=Go.heap_setCell_same w g 1 _ 43 _ h
theorem GB.appd {α:Type} {e:Elem α} {B:Nat} {v v':Value} {xs zs:List α} {bl ib bl':List Nat} (h:GB w g d q) (hA:Appd e B w w' v v' bl ib bl' zs) (h0:ORow e w v xs bl) (hn:g ∉ bl) : GB w' g d q:=(hA.block h0 h.lt hn).trans h
end
structure GS (w wr:World) (deep:Bool) (L:List PSel) (q:Value) (bl:List Nat) : Prop where
 bel:Below w.heap.size w wr
 r2:GB wr w.heap.size false (.slice none 0 0)
 r5:GB wr (w.heap.size+1+1) deep q
 row:ORow selE wr q L bl
 fsh:Fsh (w.heap.size+1) bl
 n5:w.heap.size+1+1 ∉ bl
section
variable {w wr w1 w2:World} {deep:Bool} {L:List PSel} {q v':Value} {bl bl' ib:List Nat} {x:PSel}
theorem GS.below (h:GS w wr deep L q bl) (hb:Below wr.heap.size wr w1) : GS w w1 deep L q bl:=
 ⟨below_next h.bel hb,h.r2.below hb,h.r5.below hb,h.row.below hb,h.fsh,h.n5⟩
theorem GS.app (h:GS w w1 deep L q bl) (hib:∀ b∈ib,w.heap.size+1+1 < b) (hA:Appd selE (w.heap.size+1) w1 w2 q v' bl ib bl' (L++[x])) :
  GS w (w2.setCell ⟨w.heap.size+1+1,1,none⟩ v') deep (L++[x]) v' bl':=by
 have h2:w.heap.size ∉ bl:=fun hb=>by have:=h.fsh.2 _ hb; omega
 have h5:=h.r5.lt
 have n5':w.heap.size+1+1 ∉ bl':=fun hb=>by
  rcases hA.sub _ hb with hb | hb | hb
  ·exact h.n5 hb
  ·have:=hib _ hb; omega
  ·omega
 exact⟨(hA.below h.row (h.fsh.mono (by omega)) h.bel (by omega)).setCell (by show _≤w.heap.size+1+1; omega) _,(h.r2.appd hA h.row h2).other (by show _≠w.heap.size+1+1; omega) _,(h.r5.appd hA h.row h.n5).set1 _,hA.row.set n5' _,hA.fsh,n5'⟩
def GRet (w:World) (l:Bs) (R:Option (XG×Bs)) (e:Ending) (w':World) : Prop:=
 Below w.heap.size w w'∧∃ (deep:Bool) (qa:Option Addr) (ql qc:Nat) (n d:Int),e = .returned (.tuple #[.agg #[.bool deep,.slice qa ql qc],.int .i64 n,.int .i64 d])∧(R=none→n=0) ∧
  ∀ x t,R=some (x,t)→deep=x.1.deep∧n=((l.length - t.length:Nat) : Int)∧d=(x.2:Int)∧∃ bl,ORow selE w' (.slice qa ql qc) x.1.sels bl∧Fsh w.heap.size bl
theorem GS.bad {qa:Option Addr} {ql qc:Nat} {l:Bs} {R:Option (XG×Bs)} (h:GS w wr deep L (.slice qa ql qc) bl) (hR:R=none) : GRet w l R (.returned (.tuple #[.agg #[.bool deep,.slice qa ql qc],.int .i64 0,.int .i64 0])) (putN wr w.heap.size 0 [.bool deep,.slice qa ql qc]):=
 ⟨putN_below h.bel (Nat.le_refl _) _ _,deep,qa,ql,qc,0,0,rfl,fun _=>rfl,fun x t hx=>by rw[hR] at hx; cases hx⟩
theorem GS.good {qa:Option Addr} {ql qc:Nat} {l:Bs} {R:Option (XG×Bs)} (h:GS w wr deep L (.slice qa ql qc) bl) {t:Bs} {d:Nat} (hR:R=some ((⟨deep,L⟩,d),t)) {n:Int} (hn:n=((l.length - t.length:Nat) : Int)) :
  GRet w l R (.returned (.tuple #[.agg #[.bool deep,.slice qa ql qc],.int .i64 n,.int .i64 (d:Int)])) (putN wr w.heap.size 0 [.bool deep,.slice qa ql qc]):=by
 refine⟨putN_below h.bel (Nat.le_refl _) _ _,deep,qa,ql,qc,n,d,rfl,fun e=>(by rw[hR] at e; cases e),fun x t' hx=>?_⟩
 rw[hR] at hx
 injection hx with hx
 injection hx with hx1 hx2
 subst hx1; subst hx2
 refine⟨rfl,hn,rfl,bl,h.row.putN (fun hb=>?_) _ _,h.fsh.mono (by omega)⟩
 have:=h.fsh.2 _ hb; omega
end
theorem GS.start (w:World) : GS w (((w.alloc (.cells #[.bool false,.slice none 0 0] 43)).alloc (.cells #[] 40)).alloc (.cells #[.bool false,.slice (some ⟨w.heap.size+1,0,none⟩) 0 0] 43)) false [] (.slice (some ⟨w.heap.size+1,0,none⟩) 0 0) [w.heap.size+1]:=by
 generalize hA:(w.alloc (.cells #[.bool false,.slice none 0 0] 43))=wA
 have a1:GB wA w.heap.size false (.slice none 0 0):=by rw[← hA]; exact heap_alloc_new w _
 have a2:Below w.heap.size w wA:=by rw[← hA]; exact al_b w _
 have a3:wA.heap.size=w.heap.size+1:=by rw[← hA]; simp
 have hE:=orow_empty selE wA
 rw[a3] at hE
 have b0:Below wA.heap.size wA (wA.alloc (.cells #[] 40)):=al_b wA _
 have b3:(wA.alloc (.cells #[] 40)).heap.size=w.heap.size+1+1:=by rw[← a3]; simp
 have hE2:ORow selE (wA.alloc (.cells #[] 40)) (.slice (some ⟨w.heap.size+1,0,none⟩) 0 0) [] [w.heap.size+1]:=hE
 generalize (wA.alloc (.cells #[] 40))=wB at *
 have c0:=al_b wB (.cells #[.bool false,.slice (some ⟨w.heap.size+1,0,none⟩) 0 0] 43)
 have c1:=heap_alloc_new wB (.cells #[.bool false,.slice (some ⟨w.heap.size+1,0,none⟩) 0 0] 43)
 rw[b3] at c1
 exact⟨below_next (below_next a2 b0) c0,(a1.below b0).below c0,c1,hE2.below c0,⟨by simp,by simp⟩,by simp⟩
theorem GS.deepen {w wr:World} {L:List PSel} {q:Value} {bl:List Nat} {deep:Bool} (h:GS w wr deep L q bl) (b:Bool) : GS w (wr.setCell ⟨w.heap.size+1+1,0,none⟩ (.bool b)) b L q bl:=
 ⟨h.bel.setCell (by show _≤w.heap.size+1+1; omega) _,h.r2.other (by show _≠w.heap.size+1+1; omega) _,Go.heap_setCell_same wr _ 0 _ 43 _ h.r5,h.row.set h.n5 _,h.fsh,h.n5⟩
def segAt (n:Nat) (s:ByteArray) (i:Nat) (deep:Bool) : Option (XG×Bs):=if i≠1∧bt s i=91 then brP (sBr n) deep (dr s (i+1)) else if i=0 then none else nmP deep (dr s i)
def Dots (s:ByteArray) (i:Nat) (deep:Bool) : Prop:=(i=0∧deep=false∧¬ bt s 0=46)∨(i=1∧deep=false∧bt s 0=46∧¬ bt s 1=46)∨(i=2∧deep=true∧bt s 0=46∧bt s 1=46)
theorem bt_dr {s:ByteArray} {i:Nat} {c:UInt8} {r:Bs} (h:dr s i=c :: r) : i < s.size∧bt s i=c.toNat∧dr s (i+1)=r:=by
 have hi:i < s.size:=by
  apply Classical.byContradiction
  intro hn
  rw[dr_end (by omega)] at h; cases h
 rw[dr_at hi] at h
 injection h with h1 h2
 exact⟨hi,by rw[bt_at s i hi,h1],h2⟩
theorem bt_nil {s:ByteArray} {i:Nat} (h:dr s i=[]) : bt s i=0:=by
 refine bt_out s i ?_
 apply Classical.byContradiction
 intro hn
 rw[dr_at (by omega)] at h; cases h
theorem toNat_is {c:UInt8} {n:Nat} (hn:n < 256) : c.toNat=n↔c=UInt8.ofNat n:=by
 constructor
 ·intro h; apply UInt8.toNat_inj.1; rw[h]; simp; omega
 ·intro h; rw[h]; simp; omega
theorem seg_at {n:Nat} {s:ByteArray} {i:Nat} {deep:Bool} (h:Dots s i deep) : segP (sBr n) s.data.toList=segAt n s i deep:=by
 have e46:∀ c:UInt8,c.toNat=46↔c=46:=fun c=>toNat_is (by decide)
 have e91:∀ c:UInt8,c.toNat=91↔c=91:=fun c=>toNat_is (by decide)
 unfold segAt
 rw[← dr_zero]
 rcases h with ⟨rfl,rfl,h0⟩ | ⟨rfl,rfl,h0,h1⟩ | ⟨rfl,rfl,h0,h1⟩
 ·cases hd:dr s 0 with
  | nil=>rw[if_neg (by rw[bt_nil hd]; simp)]; rfl
  | cons c r=>
   obtain⟨-,hb,hr⟩:=bt_dr hd
   rw[hb] at h0 ⊢
   show (if c=91 then brP (sBr n) false r else if c=46 then dotP (sBr n) r else none)=_
   rw[e46] at h0
   by_cases h91:c=91
   ·rw[if_pos h91,if_pos ⟨by decide,(e91 c).2 h91⟩,hr]
   ·rw[if_neg h91,if_neg h0,if_neg (fun h=>h91 ((e91 c).1 h.2)),if_pos rfl]
 ·cases hd:dr s 0 with
  | nil=>rw[bt_nil hd] at h0; cases h0
  | cons c r=>
   obtain⟨-,hb,hr⟩:=bt_dr hd
   rw[hb,e46] at h0
   subst h0
   show (if (46:UInt8)=91 then brP (sBr n) false r else if (46:UInt8)=46 then dotP (sBr n) r else none)=_
   rw[if_neg (by decide),if_pos rfl,if_neg (by simp),if_neg (by decide)]
   rw[Nat.zero_add] at hr
   rw[hr]
   cases r with
   | nil=>rfl
   | cons d u=>
    obtain⟨-,hb1,-⟩:=bt_dr hr
    rw[hb1,e46] at h1
    rw[dotP_con,if_neg h1]
 ·cases hd:dr s 0 with
  | nil=>rw[bt_nil hd] at h0; cases h0
  | cons c r=>
   obtain⟨-,hb,hr⟩:=bt_dr hd
   rw[hb,e46] at h0
   subst h0
   show (if (46:UInt8)=91 then brP (sBr n) false r else if (46:UInt8)=46 then dotP (sBr n) r else none)=_
   rw[if_neg (by decide),if_pos rfl]
   rw[Nat.zero_add] at hr
   cases r with
   | nil=>rw[bt_nil hr] at h1; cases h1
   | cons d u=>
    obtain⟨-,hb1,hu⟩:=bt_dr hr
    rw[hb1,e46] at h1
    subst h1
    rw[dotP_con,if_pos rfl]
    cases hv:u with
    | nil=>
     rw[hv] at hu
     rw[bt_nil hu,if_neg (by simp),if_neg (by decide),hu]; rfl
    | cons e v=>
     rw[hv] at hu
     obtain⟨-,hb2,hw⟩:=bt_dr hu
     rw[hb2]
     simp only
     by_cases h91:e=91
     ·rw[if_pos h91,if_pos ⟨by decide,(e91 e).2 h91⟩,hw]
     ·rw[if_neg h91,if_neg (fun h=>h91 ((e91 e).1 h.2)),if_neg (by decide),hu]
def LUp (n:Nat) (R:Option XL) (ps:List Bs) (i:Nat) (x:XL) : Prop:=R=sSMore n x (ps.drop i)∧x.1.length≤i∧x.2≤1000000
theorem LUp.no {n:Nat} {R:Option XL} {ps:List Bs} {i:Nat} {x:XL} (h:LUp n R ps i x) (hi:i < ps.length) (hp:sSel n ps[i]=none) : R=none:=by
 have e:ps.drop i=ps[i] :: ps.drop (i+1):=by rw[← List.getElem_cons_drop (h:=hi)]
 rw[h.1,e]
 show (match sSel n ps[i] with | none=>none | some y=>sSMore n (joinS x y) (ps.drop (i+1)))=none
 rw[hp]
theorem sSel_len {n:Nat} {p:Bs} {y:XS} (h:sSel n p=some y) : y.2≤p.length:=by
 unfold sSel at h
 split at h
 ·injection h with h; rw[← h]; exact Nat.zero_le _
 ·split at h
  ·cases hc:sCdOf (sPr n) p.tail with
   | none=>rw[hc] at h; cases h
   | some z=>
    rw[hc] at h
    injection h with h
    have:=(sCd_len (sPr_len n) _ z hc).2
    rw[List.length_tail] at this
    rw[← h]; show z.2≤_; omega
  ·split at h
   ·injection h with h; rw[← h]; exact Nat.zero_le _
   ·split at h
    ·injection h with h; rw[← h]; exact Nat.zero_le _
    ·cases hc:sSlc p with
     | none=>rw[hc] at h; cases h
     | some z=>rw[hc] at h; injection h with h; rw[← h]; exact Nat.zero_le _
theorem LUp.next {n:Nat} {R:Option XL} {ps:List Bs} {i:Nat} {x:XL} {y:XS} (h:LUp n R ps i x) (hi:i < ps.length) (hl:ps[i].length≤1000000) (hp:sSel n ps[i]=some y) : LUp n R ps (i+1) (joinS x y):=by
 have e:ps.drop i=ps[i] :: ps.drop (i+1):=by rw[← List.getElem_cons_drop (h:=hi)]
 have hy:=sSel_len hp
 refine⟨?_,?_,?_⟩
 ·rw[h.1,e]
  show (match sSel n ps[i] with | none=>none | some y=>sSMore n (joinS x y) (ps.drop (i+1)))=_
  rw[hp]
 ·have:=h.2.1; simp[joinS]; omega
 ·have:=h.2.2; show max x.2 y.2≤_; omega
theorem LUp.fin {n:Nat} {R:Option XL} {ps:List Bs} {i:Nat} {x:XL} (h:LUp n R ps i x) (hi:ps.length≤i) : R=some x:=by
 rw[h.1,List.drop_of_length_le hi]; rfl
end Go.Proofs.YtkjcgkfejdogbaaGreatDoor
