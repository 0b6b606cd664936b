import Derived.Deep.LoopGhost
import Derived.Test.YtocnekbedcnmgaaGreatDoorBa3
import Derived.Test.YtocnekbedcnmgaaGreatDoorBa1
import Derived.Laws.DeepStrings4
set_option maxRecDepth 100000
set_option maxHeartbeats 8000000
namespace Go.Proofs.YtocnekbedcnmgaaGreatDoor
open Go.RowKit
def preA:JL→List UInt8
 | .nil=>[]
 | .cons v r=>ct v++44 :: preA r
theorem preA_snoc:∀ (a:JL) (v:JV),preA (a.app (.cons v .nil))=preA a++(ct v++[44])
 | .nil,v=>by simp[JL.app,preA]
 | .cons u r,v=>by simp[JL.app,preA,preA_snoc r v]
theorem joinT_pre:∀ (a:JL) (v:JV),44 :: (preA a++ct v)=joinT (ctL (a.app (.cons v .nil)))
 | .nil,v=>by simp[JL.app,preA,ctL,joinT]
 | .cons u r,v=>by
  have:=joinT_pre r v
  simp[JL.app,preA,ctL,joinT,← this]
theorem joinC_pre (a:JL) (v:JV) : preA a++ct v=joinC (ctL (a.app (.cons v .nil))):=by
 cases a with
 | nil=>simp[JL.app,preA,ctL,joinC,joinT]
 | cons u r=>
  have:=joinT_pre r v
  simp[JL.app,preA,ctL,joinC,← this]
abbrev gotB (t:ByteArray) (n:Nat) (ok b tw:Bool) : Obj:=.cells #[.string t,.int .i64 (n:Int),.bool ok,.bool b,.bool tw] 96 (0,0)
def Got (g:Nat) (t:ByteArray) (n:Nat) (ok b tw:Bool) (w:World) : Prop:=w.heap[g]?=some (gotB t n ok b tw)
theorem Got.c0 {g n:Nat} {t:ByteArray} {ok b tw:Bool} {w:World} (h:Got g t n ok b tw w) : w.cell? ⟨g,0,none⟩=some (.string t):=by rw[Lib.cell_of_heap h]; rfl
theorem Got.c1 {g n:Nat} {t:ByteArray} {ok b tw:Bool} {w:World} (h:Got g t n ok b tw w) : w.cell? ⟨g,1,none⟩=some (.int .i64 (n:Int)):=by rw[Lib.cell_of_heap h]; rfl
theorem Got.c2 {g n:Nat} {t:ByteArray} {ok b tw:Bool} {w:World} (h:Got g t n ok b tw w) : w.cell? ⟨g,2,none⟩=some (.bool ok):=by rw[Lib.cell_of_heap h]; rfl
theorem Got.c3 {g n:Nat} {t:ByteArray} {ok b tw:Bool} {w:World} (h:Got g t n ok b tw w) : w.cell? ⟨g,3,none⟩=some (.bool b):=by rw[Lib.cell_of_heap h]; rfl
theorem Got.c4 {g n:Nat} {t:ByteArray} {ok b tw:Bool} {w:World} (h:Got g t n ok b tw w) : w.cell? ⟨g,4,none⟩=some (.bool tw):=by rw[Lib.cell_of_heap h]; rfl
theorem Got.fz {g n:Nat} {t:ByteArray} {ok b tw:Bool} {w:World} (h:Got g t n ok b tw w) (k:Nat) : w.frozen? ⟨g,k,none⟩=false:=Lib.frozen_of_heap h k
theorem Got.lt {g n:Nat} {t:ByteArray} {ok b tw:Bool} {w:World} (h:Got g t n ok b tw w) : g < w.heap.size:=(Array.getElem?_eq_some_iff.1 h).1
theorem Got.below {g n:Nat} {t:ByteArray} {ok b tw:Bool} {w w':World} (h:Got g t n ok b tw w) (hb:Below w.heap.size w w') : Got g t n ok b tw w':=(hb.block g h.lt).trans h
theorem Got.alloc {g n:Nat} {t:ByteArray} {ok b tw:Bool} {w:World} (h:Got g t n ok b tw w) (o:Obj) : Got g t n ok b tw (w.alloc o):=h.below (alloc_below w o)
theorem Got.other {g n:Nat} {t:ByteArray} {ok b tw:Bool} {w:World} (h:Got g t n ok b tw w) {p:Addr} (hp:g≠p.block) (v:Value) : Got g t n ok b tw (w.setCell p v):=(Below.heap_setCell w p v g hp).trans h
theorem Got.set0 {g n:Nat} {t:ByteArray} {ok b tw:Bool} {w:World} (h:Got g t n ok b tw w) (t':ByteArray) : Got g t' n ok b tw (w.setCell ⟨g,0,none⟩ (.string t')):=heap_setCell_same w g 0 _ 96 (.string t') h
theorem Got.set1 {g n:Nat} {t:ByteArray} {ok b tw:Bool} {w:World} (h:Got g t n ok b tw w) (z:Int) (n':Nat) (hz:z=(n':Int)) : Got g t n' ok b tw (w.setCell ⟨g,1,none⟩ (.int .i64 z)):=by
 subst hz; exact heap_setCell_same w g 1 _ 96 (.int .i64 (n':Int)) h
theorem Got.set3 {g n:Nat} {t:ByteArray} {ok b tw:Bool} {w:World} (h:Got g t n ok b tw w) (b':Bool) : Got g t n ok b' tw (w.setCell ⟨g,3,none⟩ (.bool b')):=heap_setCell_same w g 3 _ 96 (.bool b') h
theorem Got.set4 {g n:Nat} {t:ByteArray} {ok b tw:Bool} {w:World} (h:Got g t n ok b tw w) (b':Bool) : Got g t n ok b b' (w.setCell ⟨g,4,none⟩ (.bool b')):=heap_setCell_same w g 4 _ 96 (.bool b') h
theorem Got.set2 {g n:Nat} {t:ByteArray} {ok b tw:Bool} {w:World} (h:Got g t n ok b tw w) (b':Bool) : Got g t n b' b tw (w.setCell ⟨g,2,none⟩ (.bool b')):=heap_setCell_same w g 2 _ 96 (.bool b') h
theorem Got.put {g n:Nat} {t:ByteArray} {ok b tw:Bool} {w:World} (h:Got g t n ok b tw w) (t':ByteArray) (z:Int) (n':Nat) (hz:z=(n':Int)) (ok' b' tw':Bool) :
  Got g t' n' ok' b' tw' (((((w.setCell ⟨g,0,none⟩ (.string t')).setCell ⟨g,1,none⟩ (.int .i64 z)).setCell ⟨g,2,none⟩ (.bool ok')).setCell ⟨g,3,none⟩ (.bool b')).setCell ⟨g,4,none⟩ (.bool tw')):=
 ((((h.set0 t').set1 z n' hz).set2 ok').set3 b').set4 tw'
theorem Got.copyTo {r g n n0:Nat} {t t0:ByteArray} {ok b tw ok0 b0 tw0:Bool} {w:World} (h:Got r t0 n0 ok0 b0 tw0 w) (_:Got g t n ok b tw w) (z:Int) (hz:z=(n:Int)) :
  Got r t n ok b tw (((((w.setCell ⟨r,0,none⟩ (.string t)).setCell ⟨r,1,none⟩ (.int .i64 z)).setCell ⟨r,2,none⟩ (.bool ok)).setCell ⟨r,3,none⟩ (.bool b)).setCell ⟨r,4,none⟩ (.bool tw)):=h.put t z n hz ok b tw
theorem below_put {B g:Nat} {w w':World} (h:Below B w w') (hg:B≤g) (a b c d e:Value) :
  Below B w (((((w'.setCell ⟨g,0,none⟩ a).setCell ⟨g,1,none⟩ b).setCell ⟨g,2,none⟩ c).setCell ⟨g,3,none⟩ d).setCell ⟨g,4,none⟩ e):=
 ((((h.setCell (p:=⟨g,0,none⟩) hg _).setCell (p:=⟨g,1,none⟩) hg _).setCell (p:=⟨g,2,none⟩) hg _).setCell (p:=⟨g,3,none⟩) hg _).setCell (p:=⟨g,4,none⟩) hg _
theorem got_ret {fn:Func} (hres:fn.results=#[.cell 4 96]) {tmps:Array Value} {g n:Nat} {t:ByteArray} {ok b tw:Bool} {w:World} (hp:tmps.getD 4 undef = .pointer (some ⟨g,0,none⟩)) (h:Got g t n ok b tw w) :
  (results fn tmps).run Tryz.prog w = .ok (gotV t n ok b tw) w:=
 results_cell_row hres tmps w g 96 _ (0,0) _ hp h Tryz.underlying96 rfl (by kernel_rfl)
theorem or_cases:∀ a b c:Bool,(a || b)=c→a=true∧c=true∨a=false∧b=c:=by decide
def Cells5 (g:Nat) (a b c d e:Value) (w:World) : Prop:=w.cell? ⟨g,0,none⟩=some a∧w.cell? ⟨g,1,none⟩=some b∧w.cell? ⟨g,2,none⟩=some c∧w.cell? ⟨g,3,none⟩=some d∧w.cell? ⟨g,4,none⟩=some e
theorem Got.cells {g n:Nat} {t:ByteArray} {ok b tw:Bool} {w:World} (h:Got g t n ok b tw w) : Cells5 g (.string t) (.int .i64 (n:Int)) (.bool ok) (.bool b) (.bool tw) w:=⟨h.c0,h.c1,h.c2,h.c3,h.c4⟩
theorem Got.fzs {g n:Nat} {t:ByteArray} {ok b tw:Bool} {w:World} (h:Got g t n ok b tw w) : w.frozen? ⟨g,0,none⟩=false∧w.frozen? ⟨g,1,none⟩=false∧w.frozen? ⟨g,2,none⟩=false∧w.frozen? ⟨g,3,none⟩=false∧w.frozen? ⟨g,4,none⟩=false:=⟨h.fz 0,h.fz 1,h.fz 2,h.fz 3,h.fz 4⟩
theorem strOf_app (a b:List UInt8) : strOf a++strOf b=strOf (a++b):=by
 apply Go.WideShapes.bytes_inj
 rw[ByteArray.data_append,Array.toList_append,strOf_toList,strOf_toList,strOf_toList]
def Small1 (s:ByteArray) : Prop:=
 (∀ (z:Int) (j:Nat) w,z=(j:Int)→Calls Tryz.prog 57 #[.string s,.int .i64 z] w fun e w'=>e = .returned (.int .i64 (sk s j))∧w=w') ∧
 (∀ (c j:Nat) w,c≠0→Calls Tryz.prog 107 #[.string s,.int .i64 j,.int .u8 c] w fun e w'=>e = .returned (.bool (decide (bt s j=c)))∧w=w')
theorem small1 (s:ByteArray) (hs:s.size≤1048576) : Small1 s:=by
 refine⟨fun z j w hz=>?_,fun c j w hc=>?_⟩
 ·subst hz; exact l1Skip_walk s j w hs
 ·have h:=at_walk s (j:Int) j rfl c w
  have e:atB s j (c:Int)=decide (bt s j=c):=by
   by_cases hlt:j < s.size
   ·rw[atB_in hlt,← bt_at s j hlt]
    by_cases g:bt s j=c
    ·rw[g]; simp
    ·rw[decide_eq_false g,beq_eq_false_iff_ne]; omega
   ·rw[atB_out hlt,bt_out s j (by omega)]
    exact (decide_eq_false (fun g=>hc g.symm)).symm
  rw[e] at h
  exact h
def decF:Nat→Nat→List UInt8
 | 0,_=>[]
 | f+1,n=>if n < 10 then [UInt8.ofNat (48+n)] else decF f (n / 10)++[UInt8.ofNat (48+n % 10)]
def decT (n:Nat) : List UInt8:=decF (n+1) n
theorem decF_same:∀ (f g n:Nat),n < f→n < g→decF f n=decF g n
 | 0,_,_,h,_=>by omega
 | _+1,0,_,_,h=>by omega
 | f+1,g+1,n,hf,hg=>by
  rw[decF,decF]
  by_cases h:n < 10
  ·rw[if_pos h,if_pos h]
  ·rw[if_neg h,if_neg h,decF_same f g (n / 10) (by omega) (by omega)]
theorem decT_lo {n:Nat} (h:n < 10) : decT n=[UInt8.ofNat (48+n)]:=by unfold decT; rw[decF,if_pos h]
theorem decT_hi {n:Nat} (h:¬ n < 10) : decT n=decT (n / 10)++decT (n % 10):=by
 rw[decT_lo (n:=n % 10) (by omega)]
 unfold decT
 rw[decF,if_neg h,decF_same n (n / 10+1) (n / 10) (by omega) (by omega)]
theorem decT_len:∀ n:Nat,(decT n).length≤n+1:=fun n=>by
 have:∀ f n,(decF f n).length≤f:=by
  intro f
  induction f with
  | zero=>intro n; simp[decF]
  | succ f ih=>
   intro n
   rw[decF]
   split
   ·simp
   ·have:=ih (n / 10); simp; omega
 exact this (n+1) n
theorem dec_walk:∀ (b n:Nat) (w:World),n≤b→n≤1000000000→Calls Tryz.prog 74 #[.int .i64 (n:Int)] w fun e w'=>e = .returned (.string (strOf (decT n)))∧Below w.heap.size w w':=by
 intro b
 induction b with
 | zero=>
  intro n w hn _
  obtain rfl:n=0:=by omega
  have hcv:=convert_bytes w (decT 0) #[.int .u8 48] 1 rfl rfl
  generalize decT 0=u at *
  go_enter Tryz.func74,Tryz.ntmps74
  go_wp2
  go_ret
  exact⟨rfl,(Below.refl _ _).alloc (Nat.le_refl _) _⟩
 | succ b ih=>
  intro n w hn hm
  by_cases h:n < 10
  ·have hcv:=convert_bytes w (decT n) #[.int .u8 (48+(n:Int))] 1 (by rw[decT_lo h]; rfl) (by rw[decT_lo h]; simp[Lib.byteCells]; omega)
   have h1:(n:Int) < 10:=by omega
   generalize decT n=u at *
   clear ih
   go_enter Tryz.func74,Tryz.ntmps74
   go_wp2
   go_ret
   exact⟨rfl,(Below.refl _ _).alloc (Nat.le_refl _) _⟩
  ·have h1:¬ (n:Int) < 10:=by omega
   have hd:(n:Int) / 10=((n / 10:Nat) : Int):=by omega
   have hr:(n:Int) % 10=((n % 10:Nat) : Int):=by omega
   have HA:Hid (∀ w,Calls Tryz.prog 74 #[.int .i64 ((n / 10:Nat) : Int)] w fun e w'=>e = .returned (.string (strOf (decT (n / 10))))∧Below w.heap.size w w'):=fun w=>ih (n / 10) w (by omega) (by omega)
   have HB:Hid (∀ w,Calls Tryz.prog 74 #[.int .i64 ((n % 10:Nat) : Int)] w fun e w'=>e = .returned (.string (strOf (decT (n % 10))))∧Below w.heap.size w w'):=fun w=>ih (n % 10) w (by omega) (by omega)
   have HE:Hid (strOf (decT (n / 10))++strOf (decT (n % 10))=strOf (decT n)):=by show _=_; rw[strOf_app,← decT_hi h]
   have z1:(strOf (decT (n / 10))).size≤1000000001:=by rw[strOf_size]; have:=decT_len (n / 10); omega
   have z2:(strOf (decT (n % 10))).size≤1000000001:=by rw[strOf_size]; have:=decT_len (n % 10); omega
   have z3:(9223372036854775807 < (strOf (decT (n / 10))).size+(strOf (decT (n % 10))).size)=False:=eq_false (by omega)
   generalize strOf (decT n)=u at *
   generalize strOf (decT (n / 10))=u1 at *
   generalize strOf (decT (n % 10))=u2 at *
   generalize n / 10=q at *
   generalize n % 10=r at *
   clear ih h
   go_enter Tryz.func74,Tryz.ntmps74
   go_wp2_with fail
   refine (uh HA _).mono ?_
   rintro e w1 ⟨rfl,b1⟩
   go_wp2_with fail
   refine (uh HB _).mono ?_
   rintro e w2 ⟨rfl,b2⟩
   have B2:=below_next b1 b2
   clear HA HB
   go_wp2
   go_ret
   exact⟨by rw[← uh HE]; rfl,B2⟩
def idxF:Nat→List (List UInt8)→List (List UInt8×List UInt8)
 | _,[]=>[]
 | b,t :: r=>(decT b,t) :: idxF (b+1) r
theorem idxF_snoc:∀ (a:List (List UInt8)) (b:Nat) (t:List UInt8),idxF b (a++[t])=idxF b a++[(decT (b+a.length),t)]
 | [],b,t=>rfl
 | x :: r,b,t=>by
  simp only[List.cons_append,idxF,idxF_snoc r (b+1) t,List.length_cons]
  rw[show b+1+r.length=b+(r.length+1) by omega]
theorem idxF_len:∀ (a:List (List UInt8)) (b:Nat),(idxF b a).length=a.length
 | [],_=>rfl
 | _ :: r,b=>by simp[idxF,idxF_len r (b+1)]
def partsV:JV→List (List UInt8×List UInt8)
 | .arr l=>idxF 0 (ctL l)
 | .obj m=>isort (ctM m)
 | _=>[]
theorem ct_ne:∀ v:JV,okV v→ct v≠[]
 | .nul,_=>by simp[ct]
 | .tt,_=>by simp[ct]
 | .ff,_=>by simp[ct]
 | .num l,h=>(num_plain h).1
 | .str l,_=>by simp[ct,quoted]
 | .arr l,_=>by simp[ct,mkA]
 | .obj m,_=>by simp[ct,mkO]
theorem ctL_top (T:ByteArray) : ∀ l:JL,okL l→∀ t∈ctL l,TopP T t∧t≠[]
 | .nil,_,t,ht=>by simp[ctL] at ht
 | .cons v r,h,t,ht=>by
  rw[okL] at h
  rw[ctL] at ht
  rcases List.mem_cons.1 ht with e | ht
  ·rw[e]; exact⟨(ctP v h.1).2,ct_ne v h.1⟩
  ·exact ctL_top T r h.2 t ht
theorem ctM_top (T:ByteArray) : ∀ m:JM,okM m→∀ p∈ctM m,TopP T p.2∧p.2≠[]∧Lib.validD p.1=true
 | .nil,_,p,hp=>by simp[ctM] at hp
 | .cons k v r,h,p,hp=>by
  rw[okM] at h
  rw[ctM] at hp
  rcases List.mem_cons.1 hp with e | hp
  ·rw[e]; exact⟨(ctP v h.2.1).2,ct_ne v h.2.1,h.1⟩
  ·exact ctM_top T r h.2.2 p hp
def pk (cs:List (List UInt8)) (k:Nat) : Nat:=1+(joinC (cs.take k)).length+(if k=0 then 0 else 1)
theorem joinT_split:∀ (cs:List (List UInt8)) (k:Nat),(h:k < cs.length)→joinT cs=joinT (cs.take k)++44 :: (cs[k]++joinT (cs.drop (k+1)))
 | t :: r,0,_=>by simp[joinT]
 | t :: r,k+1,h=>by
  have:=joinT_split r k (by simpa using h)
  simp only[List.take_succ_cons,joinT,List.getElem_cons_succ,List.drop_succ_cons]
  rw[this]; simp
theorem joinC_split (cs:List (List UInt8)) (k:Nat) (h:k < cs.length) : joinC cs=(joinC (cs.take k)++(if k=0 then [] else [44]))++(cs[k]++joinT (cs.drop (k+1))):=by
 cases cs with
 | nil=>simp at h
 | cons t r=>
  cases k with
  | zero=>simp[joinC]
  | succ k=>
   have:=joinT_split r k (by simpa using h)
   simp only[joinC,List.take_succ_cons,List.getElem_cons_succ,List.drop_succ_cons]
   rw[this]
   simp
theorem stops_tail (cs:List (List UInt8)) (c:UInt8) (hc:c.toNat=93∨c.toNat=125) : Stops (joinT cs++[c]):=by
 cases cs with
 | nil=>exact .inr ⟨c,[],rfl,.inr hc⟩
 | cons t r=>exact .inr ⟨44,_,rfl,.inl rfl⟩
theorem drop_pk {T:ByteArray} {cs:List (List UInt8)} {a c:UInt8} (hT:T.data.toList=a :: (joinC cs++[c])) (k:Nat) (h:k < cs.length) : T.data.toList.drop (pk cs k)=cs[k]++(joinT (cs.drop (k+1))++[c]):=by
 have e:T.data.toList=(a :: (joinC (cs.take k)++(if k=0 then [] else [44])))++(cs[k]++(joinT (cs.drop (k+1))++[c])):=by
  rw[hT,joinC_split cs k h]; simp
 have hl:(a :: (joinC (cs.take k)++(if k=0 then [] else [44]))).length=pk cs k:=by
  unfold pk
  split <;> simp <;> omega
 rw[e,← hl,List.drop_left]
theorem pk_next (cs:List (List UInt8)) (k:Nat) (h:k < cs.length) : pk cs (k+1)=pk cs k+cs[k].length+1:=by
 have e:(joinC (cs.take (k+1))).length=(joinC (cs.take k)).length+(if k=0 then 0 else 1)+cs[k].length:=by
  rw[List.take_succ_eq_append_getElem h,joinC_snoc]
  by_cases hk:k=0
  ·subst hk; simp[joinC]
  ·have hne:cs.take k≠[]:=by intro e; have:=congrArg List.length e; rw[List.length_take,List.length_nil] at this; omega
   rw[if_neg hne,if_neg hk]
   simp; omega
 unfold pk
 rw[e,if_neg (Nat.succ_ne_zero k)]
 omega
theorem pk_in {T:ByteArray} {cs:List (List UInt8)} {a c:UInt8} (hT:T.data.toList=a :: (joinC cs++[c])) (k:Nat) (h:k < cs.length) : pk cs k+cs[k].length+1≤T.size:=by
 have h1:=congrArg List.length (drop_pk hT k h)
 rw[List.length_drop,data_len] at h1
 simp at h1
 by_cases hle:pk cs k≤T.size
 ·omega
 ·omega
theorem pk_end {T:ByteArray} {cs:List (List UInt8)} {a c:UInt8} (hT:T.data.toList=a :: (joinC cs++[c])) : T.size≤pk cs cs.length+1:=by
 have h1:=congrArg List.length hT
 rw[data_len] at h1
 simp at h1
 unfold pk
 rw[List.take_of_length_le (Nat.le_refl _)]
 omega
theorem cut_pk {T:ByteArray} {i:Nat} {t m:List UInt8} (h:T.data.toList.drop i=t++m) : T.extract i (i+t.length)=strOf t:=by
 rw[strOf_cut]
 unfold cutB
 rw[h,Nat.add_sub_cancel_left]
 simp
theorem strR_len {s:ByteArray} : ∀ {i j:Nat} {l:List UInt8},strR s i=some (l,j)→l.length+4*(i+1)≤4*j:=by
 intro i
 generalize hn:s.size - i=n
 induction n using Nat.strongRecOn generalizing i with
 | _ n ih=>
  intro j l h
  by_cases h34:bt s i=34
  ·rw[strR_end h34] at h
   injection h with h; injection h with h1 h2
   subst h1; simp; omega
  ·cases hp:piece s i with
   | none=>rw[strR_bad h34 hp] at h; cases h
   | some p=>
    obtain⟨r,n'⟩:=p
    have hk:=piece_ok hp
    have he:=enc_le r
    rw[strR_go h34 hp] at h
    rcases hq:strR s (i+n') with _ | ⟨l2,j2⟩
    ·rw[hq] at h; cases h
    ·rw[hq] at h
     injection h with h; injection h with h1 h2
     have:=ih (s.size - (i+n')) (by omega) rfl hq
     subst h1
     simp only[List.length_append]
     simp only at h2
     omega
theorem strQ_len {s:ByteArray} {i j:Nat} {l:List UInt8} (h:strQ s i=some (l,j)) : l.length+4*(i+2)≤4*j:=by
 unfold strQ at h
 split at h
 ·have:=strR_len h; omega
 ·cases h
theorem quoted_len (l:List UInt8) : (quoted l).length≤6*l.length+2:=by
 have:=qs_le l
 unfold quoted; simp only[List.length_cons,List.length_append,List.length_nil]; omega
theorem nm_len {s:ByteArray} {i j:Nat} {l:List UInt8} (h:nm s i=some (l,j)) : l.length+i≤j:=by
 have hk:=nm_ok h
 unfold nm at h
 split at h
 ·injection h with h; injection h with h1 h2
  subst h1; subst h2
  unfold norm0 cutB
  split
  ·simp; omega
  ·rw[List.length_take,List.length_drop,data_len]; omega
 ·cases h
def sumT (l:List (List UInt8×List UInt8)) : Nat:=(l.map fun p=>(memT p).length+1).sum
theorem sumT_ins (p:List UInt8×List UInt8) : ∀ l,sumT (insR p l)=(memT p).length+1+sumT l
 | []=>by simp[insR,sumT]
 | q :: r=>by
  have:=sumT_ins p r
  unfold insR
  split
  ·simp[sumT] at *; omega
  ·simp[sumT]
theorem sumT_fold:∀ (l acc:List (List UInt8×List UInt8)),sumT (l.foldl (fun acc p=>insR p acc) acc)=sumT l+sumT acc
 | [],acc=>by simp[sumT]
 | p :: l,acc=>by
  rw[List.foldl_cons,sumT_fold l,sumT_ins]
  simp[sumT]; omega
theorem sumT_rev (l:List (List UInt8×List UInt8)) : sumT l.reverse=sumT l:=by
 unfold sumT; rw[List.map_reverse,List.sum_reverse]
theorem sumT_isort (l:List (List UInt8×List UInt8)) : sumT (isort l)=sumT l:=by
 unfold isort; rw[sumT_rev,sumT_fold]; simp[sumT]
theorem joinT_len:∀ l:List (List UInt8),(joinT l).length=(l.map fun t=>t.length+1).sum
 | []=>rfl
 | t :: r=>by simp[joinT,joinT_len r]; omega
theorem joinC_len (l:List (List UInt8)) : (joinC l).length≤(l.map fun t=>t.length+1).sum:=by
 cases l with
 | nil=>simp[joinC]
 | cons t r=>simp[joinC,joinT_len]
theorem mkO_len (l:List (List UInt8×List UInt8)) : (mkO (isort l)).length≤sumT l+2:=by
 have h:=joinC_len ((isort l).map memT)
 rw[List.map_map] at h
 have e:((isort l).map ((fun t=>t.length+1)∘memT)).sum=sumT l:=by rw[← sumT_isort l]; rfl
 rw[e] at h
 unfold mkO
 simp only[List.length_cons,List.length_append,List.length_nil]; omega
theorem p_len (s:ByteArray) : ∀ f i,(∀ v j,pv s f i=some (v,j)→(ct v).length≤30*(j - i))∧(∀ l j,pa s f i=some (l,j)→((ctL l).map fun t=>t.length+1).sum+2≤30*(j - i))∧(∀ m j,po s f i=some (m,j)→sumT (ctM m)+2≤30*(j - i))
 | 0,i=>⟨fun v j h=>by simp[pv] at h,fun v j h=>by simp[pa] at h,fun v j h=>by simp[po] at h⟩
 | f+1,i=>by
  refine⟨fun v j h=>?_,fun l j h=>?_,fun m j h=>?_⟩
  ·have hok:=(p_ok s (f+1) i).1 v j h
   rw[pv] at h
   have g:=sk_ge s (i+1)
   split at h
   ·split at h
    ·injection h with h; injection h with h0 h
     subst h0
     simp[ct,ctL,mkA,joinC]; omega
    ·simp only[Option.map_eq_some_iff] at h
     obtain⟨⟨l,k⟩,hk,h⟩:=h
     injection h with h0 h
     have h1:=(p_len s f (sk s (i+1))).2.1 l k hk
     have h2:=(p_ok s f (sk s (i+1))).2.1 l k hk
     have h3:=joinC_len (ctL l)
     subst h0
     simp only[ct,mkA,List.length_cons,List.length_append,List.length_nil]
     simp only at h; omega
   ·split at h
    ·split at h
     ·injection h with h; injection h with h0 h
      subst h0
      simp[ct,ctM,mkO,isort,joinC]; omega
     ·simp only[Option.map_eq_some_iff] at h
      obtain⟨⟨l,k⟩,hk,h⟩:=h
      injection h with h0 h
      have h1:=(p_len s f (sk s (i+1))).2.2 l k hk
      have h2:=(p_ok s f (sk s (i+1))).2.2 l k hk
      have h3:=mkO_len (ctM l)
      subst h0
      simp only[ct]
      simp only at h; omega
    ·split at h
     ·simp only[Option.map_eq_some_iff] at h
      obtain⟨⟨l,k⟩,hk,h⟩:=h
      injection h with h0 h
      have h1:=strQ_len hk
      have h2:=quoted_len l
      subst h0
      simp only[ct]
      simp only at h; omega
     ·split at h
      ·injection h with h; injection h with h0 h
       subst h0; simp[ct]; omega
      ·split at h
       ·injection h with h; injection h with h0 h
        subst h0; simp[ct]; omega
       ·split at h
        ·injection h with h; injection h with h0 h
         subst h0; simp[ct]; omega
        ·simp only[Option.map_eq_some_iff] at h
         obtain⟨⟨l,k⟩,hk,h⟩:=h
         injection h with h0 h
         have h1:=nm_len hk
         subst h0
         simp only[ct]
         simp only at h; omega
  ·rw[pa] at h
   simp only[Option.bind_eq_some_iff] at h
   obtain⟨⟨v,k⟩,hk,h⟩:=h
   have h1:=(p_ok s f i).1 v k hk
   have h1':=(p_len s f i).1 v k hk
   have g1:=sk_ge s k
   simp only at h
   split at h
   ·injection h with h; injection h with h0 h
    subst h0
    simp[ctL]; omega
   ·split at h
    ·simp only[Option.map_eq_some_iff] at h
     obtain⟨⟨l,n⟩,hn,h⟩:=h
     injection h with h0 h
     have h2:=(p_ok s f _).2.1 l n hn
     have h2':=(p_len s f _).2.1 l n hn
     have g2:=sk_ge s (sk s k+1)
     subst h0
     simp only[ctL,List.map_cons,List.sum_cons]
     simp only at h; omega
    ·cases h
  ·rw[po] at h
   simp only[Option.bind_eq_some_iff] at h
   obtain⟨⟨key,a⟩,ha,h⟩:=h
   have h0:=strQ_ok ha
   have h0':=strQ_len ha
   have hq:=quoted_len key
   simp only at h
   split at h
   ·simp only[Option.bind_eq_some_iff] at h
    obtain⟨⟨v,k⟩,hk,h⟩:=h
    have h1:=(p_ok s f _).1 v k hk
    have h1':=(p_len s f _).1 v k hk
    have g0:=sk_ge s a
    have g3:=sk_ge s (sk s a+1)
    have g1:=sk_ge s k
    simp only at h
    split at h
    ·injection h with h; injection h with h0 h
     subst h0
     simp[ctM,sumT,memT]; omega
    ·split at h
     ·simp only[Option.map_eq_some_iff] at h
      obtain⟨⟨l,n⟩,hn,h⟩:=h
      injection h with h0 h
      have h2:=(p_ok s f _).2.2 l n hn
      have h2':=(p_len s f _).2.2 l n hn
      have g2:=sk_ge s (sk s k+1)
      subst h0
      have e:sumT (ctM (.cons key v l))=(memT (key,ct v)).length+1+sumT (ctM l):=by simp[ctM,sumT]
      have e2:(memT (key,ct v)).length=(quoted key).length+1+(ct v).length:=by simp[memT]; omega
      simp only at h ⊢
      omega
     ·cases h
   ·cases h
theorem val_len {s:ByteArray} {i j:Nat} {v:JV} (h:val s i=some (v,j)) : (ct v).length≤30*(j - i):=(p_len s _ i).1 v j h
theorem qB_ge (c:UInt8) : 1≤(qB c).length:=by
 unfold qB
 repeat' split
 all_goals simp
theorem qs_ge (l:List UInt8) : l.length≤(qs l).length:=by
 induction l with
 | nil=>simp
 | cons c l ih=>
  have:=qB_ge c
  simp only[qs,List.flatMap_cons,List.length_append,List.length_cons] at *
  omega
def JL.toL:JL→List JV
 | .nil=>[]
 | .cons v r=>v :: r.toL
theorem ctL_map:∀ l:JL,ctL l=l.toL.map ct
 | .nil=>rfl
 | .cons v r=>by rw[ctL,JL.toL,List.map_cons,ctL_map r]
theorem quoted_ge (l:List UInt8) : l.length+2≤(quoted l).length:=by
 have:=qs_ge l
 simp[quoted]; omega
theorem memT_parts (p:List UInt8×List UInt8) : (memT p).length=(quoted p.1).length+1+p.2.length:=by simp[memT]; omega
def hold (n:Nat) : Nat:=2+(n - 1)
def dl:List JV→Nat
 | []=>0
 | v :: r=>max (depV v) (dl r)
def cl (vs:List JV) : Nat:=(vs.map cntV).sum
def nl (ts:List (List UInt8)) : Nat:=(ts.map List.length).sum
theorem dl_snoc (a:List JV) (v:JV) : dl (a++[v])=max (dl a) (depV v):=by
 induction a with
 | nil=>simp[dl]
 | cons x r ih=>simp only[List.cons_append,dl,ih]; omega
theorem cl_snoc (a:List JV) (v:JV) : cl (a++[v])=cl a+cntV v:=by simp[cl]
theorem depL_dl:∀ l:JL,depL l=dl l.toL
 | .nil=>rfl
 | .cons v r=>by rw[depL,JL.toL,dl,depL_dl r]
theorem cntL_cl:∀ l:JL,cntL l=cl l.toL
 | .nil=>rfl
 | .cons v r=>by rw[cntL,JL.toL,cntL_cl r]; simp[cl]
theorem dl_take (a:List JV) (k:Nat) : dl (a.take k)≤dl a:=by
 induction a generalizing k with
 | nil=>simp
 | cons x r ih=>
  cases k with
  | zero=>simp[dl]
  | succ k=>simp only[List.take_succ_cons,dl]; have:=ih k; omega
theorem dl_at (a:List JV) (k:Nat) (h:k < a.length) : depV a[k]≤dl a:=by
 induction a generalizing k with
 | nil=>simp at h
 | cons x r ih=>
  cases k with
  | zero=>simp only[List.getElem_cons_zero,dl]; omega
  | succ k=>simp only[List.getElem_cons_succ,dl]; have:=ih k (by simpa using h); omega
theorem sum_take (a:List Nat) (k:Nat) : (a.take k).sum≤a.sum:=by
 have:a.sum=(a.take k).sum+(a.drop k).sum:=by rw[← List.sum_append,List.take_append_drop]
 omega
theorem sum_at (a:List Nat) (k:Nat) (h:k < a.length) : a[k]≤a.sum:=by
 have h1:=sum_take a (k+1)
 rw[List.take_succ_eq_append_getElem h,List.sum_append] at h1
 simp at h1; omega
theorem joinT_nl:∀ ts:List (List UInt8),(joinT ts).length=ts.length+nl ts
 | []=>rfl
 | t :: r=>by
  have:=joinT_nl r
  simp[joinT,nl] at this ⊢
  omega
theorem joinC_nl (ts:List (List UInt8)) : (joinC ts).length+2=hold ts.length+nl ts:=by
 cases ts with
 | nil=>simp[joinC,hold,nl]
 | cons t r=>
  have:=joinT_nl r
  simp[joinC,hold,nl] at this ⊢
  omega
theorem depM_dl:∀ m:JM,depM m=dl (m.toL.map (·.2))
 | .nil=>rfl
 | .cons k v r=>by rw[depM,JM.toL,List.map_cons,dl,depM_dl r]
theorem cntM_sum:∀ m:JM,cntM m=(m.toL.map fun q=>cntV q.2).sum
 | .nil=>rfl
 | .cons k v r=>by rw[cntM,JM.toL,List.map_cons,List.sum_cons,cntM_sum r]
def memN (q:List UInt8×JV) : Nat:=(quoted q.1).length+1+(ct q.2).length
theorem ctObj_len (m:JM) : (ct (.obj m)).length=hold m.toL.length+(m.toL.map memN).sum:=by
 show (mkO (isort (ctM m))).length=_
 have h:=joinC_nl ((isort (ctM m)).map memT)
 have e1:((isort (ctM m)).map memT).length=m.toL.length:=by rw[List.length_map,(isort_perm _).length_eq,ctM_map,List.length_map]
 have e2:nl ((isort (ctM m)).map memT)=(m.toL.map memN).sum:=by
  unfold nl
  have p:=(((isort_perm (ctM m)).map memT).map List.length).sum_nat
  rw[p,ctM_map]
  simp only[List.map_map]
  congr 1
  apply List.map_congr_left
  intro q _
  simp only[Function.comp_apply,memN]
  exact memT_parts _
 rw[e1,e2] at h
 simp[mkO]; omega
theorem sumf_at (f:List UInt8×JV→Nat) {qs:List (List UInt8×JV)} {q:List UInt8×JV} (h:q∈qs) : f q≤(qs.map f).sum:=by
 obtain⟨j,hj,rfl⟩:=List.getElem_of_mem h
 have:=sum_at (qs.map f) j (by simpa using hj)
 simpa using this
def digV (l:List UInt8) : Nat:=l.foldl (fun v c=>v*10+(c.toNat - 48)) 0
theorem digV_snoc (l:List UInt8) (c:UInt8) : digV (l++[c])=digV l*10+(c.toNat - 48):=by unfold digV; rw[List.foldl_append]; rfl
def idxOk (t:List UInt8) : Bool:=decide (1≤t.length) && decide (t.length≤6) && !(decide ((t.getD 0 0).toNat=48) && decide (1 < t.length)) && t.all fun c=>isDg c.toNat
def idxT (t:List UInt8) : Option Nat:=if idxOk t=true then some (digV t) else none
theorem idxOk_iff {t:List UInt8} : idxOk t=true↔1≤t.length∧t.length≤6∧¬ ((t.getD 0 0).toNat=48∧1 < t.length)∧∀ c∈t,isDg c.toNat=true:=by
 unfold idxOk
 simp only[Bool.and_eq_true,decide_eq_true_eq,Bool.not_eq_true',Bool.and_eq_false_iff,decide_eq_false_iff_not,List.all_eq_true]
 constructor
 ·rintro⟨⟨⟨a,b⟩,c⟩,d⟩
  exact⟨a,b,fun ⟨x,y⟩=>c.elim (fun h=>h x) (fun h=>h y),d⟩
 ·rintro⟨a,b,c,d⟩
  refine⟨⟨⟨a,b⟩,?_⟩,d⟩
  by_cases h:(t.getD 0 0).toNat=48
  ·exact .inr fun y=>c ⟨h,y⟩
  ·exact .inl h
theorem digV_pos:∀ (n:Nat) (t:List UInt8),t.length=n→t≠[]→(t.getD 0 0).toNat≠48→(∀ c∈t,isDg c.toNat=true)→1≤digV t:=by
 intro n
 induction n with
 | zero=>intro t h hn; exact absurd (List.eq_nil_of_length_eq_zero h) hn
 | succ n ih=>
  intro t h _ h0 hd
  rcases List.eq_nil_or_concat t with e | ⟨a,c,e⟩
  ·subst e; simp at h
  ·rw[List.concat_eq_append] at e
   subst e
   rw[digV_snoc]
   have hc:=isDg_iff.1 (hd c (by simp))
   by_cases ha:a=[]
   ·subst ha
    have h0':c.toNat≠48:=h0
    simp[digV]; omega
   ·have h1:(a.getD 0 0).toNat≠48:=by
     cases a with
     | nil=>exact absurd rfl ha
     | cons x r=>exact h0
    have:=ih a (by simpa using h) ha h1 (fun x hx=>hd x (by simp[hx]))
    omega
theorem dec_dig:∀ (n:Nat) (t:List UInt8),t.length=n→t≠[]→¬ ((t.getD 0 0).toNat=48∧1 < t.length)→(∀ c∈t,isDg c.toNat=true)→decT (digV t)=t:=by
 intro n
 induction n with
 | zero=>intro t h hn; exact absurd (List.eq_nil_of_length_eq_zero h) hn
 | succ n ih=>
  intro t h _ h0 hd
  rcases List.eq_nil_or_concat t with e | ⟨a,c,e⟩
  ·subst e; simp at h
  ·rw[List.concat_eq_append] at e
   subst e
   have hc:=isDg_iff.1 (hd c (by simp))
   have ec:UInt8.ofNat (48+(c.toNat - 48))=c:=by rw[show 48+(c.toNat - 48)=c.toNat by omega]; exact UInt8.ofNat_toNat
   rw[digV_snoc]
   by_cases ha:a=[]
   ·subst ha
    simp only[digV,List.foldl_nil,Nat.zero_mul,Nat.zero_add,List.nil_append]
    rw[decT_lo (by omega),ec]
   ·have hal:1≤a.length:=by cases a with
     | nil=>exact absurd rfl ha
     | cons _ _=>simp
    have h1:(a.getD 0 0).toNat≠48:=by
     intro e
     refine h0 ⟨?_,by simp; omega⟩
     cases a with
     | nil=>exact absurd rfl ha
     | cons x r=>exact e
    have hda:∀ x∈a,isDg x.toNat=true:=fun x hx=>hd x (by simp[hx])
    have hp:=digV_pos _ a rfl ha h1 hda
    rw[decT_hi (by omega),show (digV a*10+(c.toNat - 48)) / 10=digV a by omega,show (digV a*10+(c.toNat - 48)) % 10=c.toNat - 48 by omega,decT_lo (n:=c.toNat - 48) (by omega),ec]
    rw[ih a (by simpa using h) ha (fun e=>h1 e.1) hda]
theorem idxT_dec {t:List UInt8} {i:Nat} (h:idxT t=some i) : decT i=t:=by
 unfold idxT at h
 split at h
 ·rename_i hk
  injection h with h
  subst h
  obtain⟨a,b,c,d⟩:=idxOk_iff.1 hk
  exact dec_dig _ t rfl (by intro e; subst e; simp at a) c d
 ·cases h
theorem dec_form:∀ (n:Nat),decT n≠[]∧(∀ c∈decT n,isDg c.toNat=true)∧digV (decT n)=n∧¬ (((decT n).getD 0 0).toNat=48∧1 < (decT n).length):=by
 intro n
 induction n using Nat.strongRecOn with
 | _ n ih=>
  by_cases h:n < 10
  ·rw[decT_lo h]
   have e:(UInt8.ofNat (48+n)).toNat=48+n:=ofNat_lt (by omega)
   refine⟨by simp,fun c hc=>?_,?_,by simp⟩
   ·rw[List.mem_singleton] at hc; subst hc; rw[e]; exact isDg_iff.2 ⟨by omega,by omega⟩
   ·simp only[digV,List.foldl_cons,List.foldl_nil,Nat.zero_mul,Nat.zero_add]; rw[e]; omega
  ·obtain⟨a1,a2,a3,a4⟩:=ih (n / 10) (by omega)
   rw[decT_hi h,decT_lo (n:=n % 10) (by omega)]
   have e:(UInt8.ofNat (48+n % 10)).toNat=48+n % 10:=ofNat_lt (by omega)
   refine⟨by simp,fun c hc=>?_,?_,?_⟩
   ·rcases List.mem_append.1 hc with hc | hc
    ·exact a2 c hc
    ·rw[List.mem_singleton] at hc; subst hc; rw[e]; exact isDg_iff.2 ⟨by omega,by omega⟩
   ·rw[digV_snoc,a3,e]; omega
   ·rintro⟨b1,_⟩
    have hh:((decT (n / 10)++[UInt8.ofNat (48+n % 10)]).getD 0 0)=(decT (n / 10)).getD 0 0:=by
     cases hd:decT (n / 10) with
     | nil=>exact absurd hd a1
     | cons x r=>rfl
    rw[hh] at b1
    by_cases h10:n / 10 < 10
    ·rw[decT_lo h10] at b1
     have e2:(UInt8.ofNat (48+n / 10)).toNat=48+n / 10:=ofNat_lt (by omega)
     have:([UInt8.ofNat (48+n / 10)].getD 0 0).toNat=48+n / 10:=e2
     rw[this] at b1
     omega
    ·refine a4 ⟨b1,?_⟩
     rw[decT_hi h10,List.length_append]
     have q1:=(ih (n / 10 / 10) (by omega)).1
     have q2:1≤(decT (n / 10 / 10)).length:=by cases hq:decT (n / 10 / 10) with
      | nil=>exact absurd hq q1
      | cons _ _=>simp
     rw[decT_lo (n:=n / 10 % 10) (by omega)]
     simp; omega
theorem decT_inj {a b:Nat} (h:decT a=decT b) : a=b:=by
 have h1:=(dec_form a).2.2.1
 have h2:=(dec_form b).2.2.1
 rw[h,h2] at h1
 exact h1.symm
def childV:JV→List UInt8→Option JV
 | .arr l,t=>(idxT t).bind fun i=>l.toL[i]?
 | .obj m,t=>(m.toL.find? fun q=>q.1 == t).map (·.2)
 | _,_=>none
def getV:JV→List (List UInt8)→Option JV
 | v,[]=>some v
 | v,t :: ts=>(childV v t).bind fun u=>getV u ts
def idxZ (t:List UInt8) : Int:=match idxT t with
 | some i=>(i:Int)
 | none=>-1
theorem tokD (s:ByteArray) (k:Nat) (h:k < s.size) : s.data.toList[k]'(by rw[data_len]; exact h)=s[k]:=rfl
theorem dig_lt:∀ (n:Nat) (t:List UInt8),t.length=n→digV t < 10 ^ n∨¬ (∀ c∈t,isDg c.toNat=true):=by
 intro n
 induction n with
 | zero=>intro t h; rw[List.eq_nil_of_length_eq_zero h]; exact .inl (by simp[digV])
 | succ n ih=>
  intro t h
  rcases List.eq_nil_or_concat t with e | ⟨a,c,e⟩
  ·subst e; simp at h
  ·rw[List.concat_eq_append] at e
   subst e
   by_cases hd:∀ x∈a++[c],isDg x.toNat=true
   ·left
    have hc:=isDg_iff.1 (hd c (by simp))
    rcases ih a (by simpa using h) with h1 | h1
    ·rw[digV_snoc,Nat.pow_succ]; omega
    ·exact absurd (fun x hx=>hd x (by simp[hx])) h1
   ·exact .inr hd
theorem l1Index_walk (s:ByteArray) (w:World) (hs:s.size≤1048576) :
  Calls Tryz.prog 141 #[.string s] w fun e w'=>e = .returned (.int .i64 (idxZ s.data.toList))∧w=w':=by
 have hbad:¬ idxOk s.data.toList=true→idxZ s.data.toList = -1:=fun h=>by unfold idxZ idxT; rw[if_neg h]
 have hdl:=data_len s
 by_cases h1:s.size < 1
 ·have HB:=hide (hbad (fun h=>by have:=(idxOk_iff.1 h).1; omega))
  have t1:(s.size:Int) < 1:=by omega
  clear hbad h1
  go_enter Tryz.func141,Tryz.ntmps141
  go_wp2
  go_ret
  exact⟨by rw[uh HB]; rfl,rfl⟩
 ·have t1:¬ (s.size:Int) < 1:=by omega
  by_cases h6:6 < s.size
  ·have HB:=hide (hbad (fun h=>by have:=(idxOk_iff.1 h).2.1; omega))
   have t2:(6:Int) < (s.size:Int):=by omega
   clear hbad h1 h6
   go_enter Tryz.func141,Tryz.ntmps141
   go_wp2
   go_ret
   exact⟨by rw[uh HB]; rfl,rfl⟩
  ·have t2:¬ (6:Int) < (s.size:Int):=by omega
   have h0:0 < s.size:=by omega
   have hg0:(s.data.toList.getD 0 0)=s[0]:=by rw[List.getD,List.getElem?_eq_getElem (by omega)]; rfl
   have hI:(0:Int) < (s.size:Int):=by omega
   by_cases hz:s[0].toNat=48∧1 < s.size
   ·have HB:=hide (hbad (fun h=>(idxOk_iff.1 h).2.2.1 ⟨by rw[hg0]; exact hz.1,by omega⟩))
    have t3:((s[0].toNat:Int) == 48)=true:=by rw[beq_iff_eq]; omega
    have t4:(1:Int) < (s.size:Int):=by omega
    clear hbad h1 h6 hz hg0
    go_enter Tryz.func141,Tryz.ntmps141
    go_wp2
    go_ret
    exact⟨by rw[uh HB]; rfl,rfl⟩
   ·have HD:Hid (∀ (k:Nat) (hk:k < s.size) (w:World),Calls Tryz.prog 148 #[.int .u8 (s[k].toNat:Int)] w fun e w'=>e = .returned (.bool (isDg s[k].toNat))∧w=w'):=fun k hk w=>digit_walk s[k].toNat w
    have HBAD:Hid (∀ k (hk:k < s.size),isDg s[k].toNat=false→idxZ s.data.toList = -1):=fun k hk hd=>hbad (fun h=>by
     have:=(idxOk_iff.1 h).2.2.2 s[k] (by rw[← tokD s k hk]; exact List.getElem_mem _)
     rw[hd] at this; cases this)
    have HGOOD:Hid ((∀ k (hk:k < s.size),isDg s[k].toNat=true)→idxZ s.data.toList=(digV s.data.toList:Int)):=fun hall=>by
     have hok:idxOk s.data.toList=true:=idxOk_iff.2 ⟨by omega,by omega,fun ⟨a,b⟩=>hz ⟨by rw[← hg0]; exact a,by omega⟩,fun c hc=>by
      obtain⟨j,hj,rfl⟩:=List.getElem_of_mem hc
      exact hall j (by omega)⟩
     unfold idxZ idxT; rw[if_pos hok]
    have t34:((s[0].toNat:Int) == 48)=false∨((s[0].toNat:Int) == 48)=true∧¬ (1:Int) < (s.size:Int):=by
     by_cases e:s[0].toNat=48
     ·right; exact⟨by rw[beq_iff_eq]; omega,by omega⟩
     ·left; rw[beq_eq_false_iff_ne]; omega
    have h6':s.size≤6:=by omega
    clear hbad hz hg0 h1 h6
    rcases t34 with t3 | ⟨t3,t4⟩
    all_goals
     go_enter Tryz.func141,Tryz.ntmps141
     go_wp2
     go_loopw [3,4] (fun vv iv wr=>∃ k:Nat,k≤s.size∧iv = .int .i64 (k:Int)∧vv = .int .i64 ((digV (s.data.toList.take k) : Nat) : Int)∧(∀ j (hj:j < s.size),j < k→isDg s[j].toNat=true)∧w=wr) (fun _ iv _=>s.size - (intOf iv).toNat)
     case atStart=>exact⟨0,Nat.zero_le _,rfl,rfl,fun j _ hj=>by omega,rfl⟩
     case round=>
      obtain⟨k,hk,rfl,rfl,hall,rfl⟩:=hrel
      have HALL:=hide hall
      clear hall
      by_cases hlt:k < s.size
      ·have hltI:(k:Int) < (s.size:Int):=by omega
       have HDk:=hide (uh HD k hlt w)
       have hst:s.data.toList.take (k+1)=s.data.toList.take k++[s[k]]:=bytes_snoc s k hlt
       have HST:Hid (digV (s.data.toList.take (k+1))=digV (s.data.toList.take k)*10+(s[k].toNat - 48)):=by show _=_; rw[hst,digV_snoc]
       have hlo:digV (s.data.toList.take k) < 1000000∨¬ ∀ c∈s.data.toList.take k,isDg c.toNat=true:=by
        rcases dig_lt k (s.data.toList.take k) (by rw[List.length_take]; omega) with h | h
        ·left
         have:10 ^ k≤10 ^ 6:=Nat.pow_le_pow_right (by omega) (by omega)
         omega
        ·exact .inr h
       have hlo':digV (s.data.toList.take k) < 1000000:=hlo.elim id fun h=>absurd (fun c hc=>by
        obtain⟨j,hj,rfl⟩:=List.getElem_of_mem hc
        rw[List.length_take] at hj
        rw[List.getElem_take]
        exact uh HALL j (by omega) (by omega)) h
       cases hd:isDg s[k].toNat with
       | false=>
        have HV:=hide (uh HBAD k hlt hd)
        rw[hd] at HDk
        clear hd HST hst hlo hlo' HALL HBAD HGOOD HD
        go_wp2_with fail
        refine (uh HDk).mono ?_
        rintro e w2 ⟨rfl,rfl⟩
        clear HDk
        go_wp2
        go_ret
        exact⟨by rw[uh HV]; rfl,rfl⟩
       | true=>
        have hb:=isDg_iff.1 hd
        have HA2:Hid (∀ j (hj:j < s.size),j < k+1→isDg s[j].toNat=true):=fun j hj hjk=>by
         by_cases e:j=k
         ·subst e; exact hd
         ·exact uh HALL j hj (by omega)
        rw[hd] at HDk
        have hb1:(48:Int)≤(s[k].toNat:Int):=by omega
        have hb2:(s[k].toNat:Int)≤57:=by omega
        generalize digV (s.data.toList.take k)=D at *
        clear hd hst hlo HALL HBAD HGOOD HD
        go_wp2_with fail
        refine (uh HDk).mono ?_
        rintro e w2 ⟨rfl,rfl⟩
        clear HDk
        go_wp2
        go_roundw
        case rel=>exact⟨k+1,by omega,by go_num,by rw[uh HST]; go_num,uh HA2,trivial⟩
        case measure=>simp[intOf]; omega
      ·have e:s.data.toList.take k=s.data.toList:=List.take_of_length_le (by omega)
       rw[e]
       have HV:=hide (uh HGOOD (fun j hj=>uh HALL j hj (by omega)))
       generalize digV s.data.toList=D at *
       clear HALL HBAD HGOOD HD e
       go_wp2
       go_ret
       exact⟨by rw[uh HV]; rfl,rfl⟩
theorem childV_arr (l:JL) (t:List UInt8) : childV (.arr l) t=(idxT t).bind fun i=>l.toL[i]?:=rfl
theorem childV_obj (m:JM) (t:List UInt8) : childV (.obj m) t=(m.toL.find? fun q=>q.1 == t).map (·.2):=rfl
theorem getV_app:∀ (a b:List (List UInt8)) (v:JV),getV v (a++b)=(getV v a).bind fun u=>getV u b
 | [],b,v=>rfl
 | t :: r,b,v=>by
  rw[List.cons_append,getV,getV]
  cases childV v t with
  | none=>rfl
  | some u=>simp only[Option.bind_some]; exact getV_app r b u
theorem getV_step {v u:JV} {ts:List (List UInt8)} {k:Nat} (h:k < ts.length) (hu:getV v (ts.take k)=some u) : getV v (ts.take (k+1))=childV u ts[k]:=by
 rw[List.take_succ_eq_append_getElem h,getV_app,hu]
 simp only[Option.bind_some,getV]
 cases childV u ts[k] <;> rfl
theorem getV_stop {v u:JV} {ts:List (List UInt8)} {k:Nat} (h:k < ts.length) (hu:getV v (ts.take k)=some u) (hc:childV u ts[k]=none) : getV v ts=none:=by
 have e:ts=ts.take (k+1)++ts.drop (k+1):=(List.take_append_drop _ _).symm
 rw[e,getV_app,getV_step h hu,hc]
 rfl
theorem okL_at:∀ (l:JL),okL l→twL l=false→∀ v∈l.toL,okV v∧twV v=false
 | .nil,_,_,v,hv=>by simp[JL.toL] at hv
 | .cons x r,h,t,v,hv=>by
  rw[okL] at h
  rw[twL,Bool.or_eq_false_iff] at t
  rw[JL.toL] at hv
  rcases List.mem_cons.1 hv with e | hv
  ·rw[e]; exact⟨h.1,t.1⟩
  ·exact okL_at r h.2 t.2 v hv
theorem okM_at:∀ (m:JM) (ks:List (List UInt8)),okM m→twM ks m=false→∀ q∈m.toL,okV q.2∧twV q.2=false
 | .nil,_,_,_,q,hq=>by simp[JM.toL] at hq
 | .cons k x r,ks,h,t,q,hq=>by
  rw[okM] at h
  rw[twM] at t
  simp only[Bool.or_eq_false_iff] at t
  rw[JM.toL] at hq
  rcases List.mem_cons.1 hq with e | hq
  ·rw[e]; exact⟨h.2.1,t.1.1⟩
  ·exact okM_at r (ks++[k]) h.2.2 t.2 q hq
theorem childV_ok {v u:JV} {t:List UInt8} (h:childV v t=some u) (hok:okV v) (htw:twV v=false) : okV u∧twV u=false∧(ct u).length≤(ct v).length∧cntV u≤cntV v:=by
 cases v with
 | arr l=>
  rw[okV] at hok
  rw[twV] at htw
  rw[childV_arr] at h
  cases hi:idxT t with
  | none=>rw[hi] at h; simp at h
  | some i=>
   rw[hi] at h
   simp only[Option.bind_some] at h
   obtain⟨hl,rfl⟩:=List.getElem?_eq_some_iff.1 h
   have hm:=List.getElem_mem hl
   obtain⟨a,b⟩:=okL_at l hok htw _ hm
   refine⟨a,b,?_,?_⟩
   ·have hct:(ct (.arr l)).length=hold (ctL l).length+nl (ctL l):=by
     show (mkA (ctL l)).length=_
     have:=joinC_nl (ctL l)
     simp[mkA]; omega
    have n1:(ct l.toL[i]).length≤nl (ctL l):=by have:=sum_at ((ctL l).map List.length) i (by rw[ctL_map]; simpa using hl); simpa [nl,ctL_map] using this
    omega
   ·rw[cntV,cntL_cl]
    have:=sum_at (l.toL.map cntV) i (by simpa using hl)
    have c1:cntV l.toL[i]≤cl l.toL:=by simpa [cl] using this
    omega
 | obj m=>
  rw[okV] at hok
  rw[twV] at htw
  rw[childV_obj] at h
  cases hf:m.toL.find? fun q=>q.1 == t with
  | none=>rw[hf] at h; simp at h
  | some q=>
   rw[hf] at h
   simp at h
   subst h
   have hm:=List.mem_of_find?_eq_some hf
   obtain⟨a,b⟩:=okM_at m [] hok htw _ hm
   refine⟨a,b,?_,?_⟩
   ·have hct:=ctObj_len m
    have n1:=sumf_at memN hm
    simp only[memN] at n1
    omega
   ·rw[cntV,cntM_sum]
    have:cntV q.2≤_:=sumf_at (fun q=>cntV q.2) hm
    omega
 | nul=>simp[childV] at h
 | tt=>simp[childV] at h
 | ff=>simp[childV] at h
 | num l=>simp[childV] at h
 | str l=>simp[childV] at h
theorem idxF_at:∀ (cs:List (List UInt8)) (b j:Nat) (h:j < (idxF b cs).length),(idxF b cs)[j]=(decT (b+j),cs[j]'(by rw[idxF_len] at h; exact h))
 | [],b,j,h=>by simp[idxF] at h
 | t :: r,b,0,h=>rfl
 | t :: r,b,j+1,h=>by
  simp only[idxF,List.getElem_cons_succ]
  rw[idxF_at r (b+1) j]
  rw[show b+1+j=b+(j+1) by omega]
theorem child_found {v:JV} {t:List UInt8} (hok:okV v) (htw:twV v=false) (hi:(∃ l,v = .arr l)→(idxT t).isSome=true) {j:Nat} (hj:j < (partsV v).length) (hk:(partsV v)[j].1=t) : ∃ u,childV v t=some u∧(partsV v)[j].2=ct u:=by
 cases v with
 | arr l=>
  have hp:partsV (.arr l)=idxF 0 (ctL l):=rfl
  have hs:=hi ⟨l,rfl⟩
  cases hx:idxT t with
  | none=>rw[hx] at hs; simp at hs
  | some i=>
   have e1:=idxF_at (ctL l) 0 j hj
   have e2:(partsV (.arr l))[j]=(decT (0+j),(ctL l)[j]'(by rw[hp,idxF_len] at hj; exact hj)):=e1
   rw[e2] at hk ⊢
   simp only[Nat.zero_add] at hk ⊢
   have:j=i:=decT_inj (hk.trans (idxT_dec hx).symm)
   subst this
   have hl:j < l.toL.length:=by rw[hp,idxF_len,ctL_map,List.length_map] at hj; exact hj
   refine⟨l.toL[j],?_,?_⟩
   ·rw[childV_arr,hx]; simp[hl]
   ·simp[ctL_map]
 | obj m=>
  have hm:(partsV (.obj m))[j]∈ctM m:=(isort_perm _).subset (List.getElem_mem hj)
  generalize (partsV (.obj m))[j]=p at *
  rw[ctM_map] at hm
  obtain⟨q,hq,rfl⟩:=List.mem_map.1 hm
  simp only at hk
  rw[twV] at htw
  have hnd:(m.toL.map (·.1)).Nodup:=by rw[← keysM_map]; exact (twM_nodup m [] htw).1
  refine⟨q.2,?_,rfl⟩
  rw[childV_obj]
  have hf:m.toL.find? (fun q=>q.1 == t)=some q:=by
   have:∀ l:List (List UInt8×JV),(l.map (·.1)).Nodup→q∈l→l.find? (fun q=>q.1 == t)=some q:=by
    intro l
    induction l with
    | nil=>intro _ h; simp at h
    | cons x r ih=>
     intro hn hin
     rw[List.map_cons,List.nodup_cons] at hn
     rw[List.find?_cons]
     rcases List.mem_cons.1 hin with e | hin
     ·subst e; simp[hk]
     ·have hne:(x.1 == t)=false:=by
       rw[beq_eq_false_iff_ne]
       intro e
       exact hn.1 (by rw[e,← hk]; exact List.mem_map.2 ⟨q,hin,rfl⟩)
      rw[hne]
      exact ih hn.2 hin
   exact this m.toL hnd hq
  rw[hf]; rfl
 | nul=>simp[partsV] at hj
 | tt=>simp[partsV] at hj
 | ff=>simp[partsV] at hj
 | num l=>simp[partsV] at hj
 | str l=>simp[partsV] at hj
theorem child_missed {v:JV} {t:List UInt8} (h:∀ j (hj:j < (partsV v).length),(partsV v)[j].1≠t) : childV v t=none:=by
 cases v with
 | arr l=>
  rw[childV_arr]
  cases hx:idxT t with
  | none=>rfl
  | some i=>
   simp only[Option.bind_some]
   by_cases hl:i < l.toL.length
   ·exfalso
    have hj:i < (partsV (.arr l)).length:=by show i < (idxF 0 (ctL l)).length; rw[idxF_len,ctL_map,List.length_map]; exact hl
    refine h i hj ?_
    have e1:(partsV (.arr l))[i]=_:=idxF_at (ctL l) 0 i hj
    rw[e1]
    simp only[Nat.zero_add]
    exact idxT_dec hx
   ·rw[List.getElem?_eq_none (by omega)]
 | obj m=>
  rw[childV_obj]
  have hf:m.toL.find? (fun q=>q.1 == t)=none:=by
   rw[List.find?_eq_none]
   intro q hq e
   have hm:(q.1,ct q.2)∈ctM m:=by rw[ctM_map]; exact List.mem_map.2 ⟨q,hq,rfl⟩
   have hp:(q.1,ct q.2)∈partsV (.obj m):=(isort_perm _).mem_iff.2 hm
   obtain⟨j,hj,he⟩:=List.getElem_of_mem hp
   refine h j hj ?_
   rw[he]
   simpa using e
  rw[hf]; rfl
 | nul=>rfl
 | tt=>rfl
 | ff=>rfl
 | num l=>rfl
 | str l=>rfl
theorem unit_short {s:ByteArray} {i:Nat} (h:s.size < i+6) : unit s i=none:=by
 cases e:unit s i with
 | none=>rfl
 | some u=>have:=unit_in e; omega
theorem l1Unit_walk (s:ByteArray) (i:Nat) (hs:s.size≤1048576) (hi:i≤2000000) (w:World) :
  Calls Tryz.prog 162 #[.string s,.int .i64 i] w fun e w'=>w=w'∧e = .returned (.int .i64 (optI (unit s i))):=by
 by_cases hlen:i+6≤s.size
 ·have hl':¬ (s.size:Int) < (i:Int)+6:=by omega
  have e0:=bt_at s i (by omega)
  have e1:=bt_at s (i+1) (by omega)
  by_cases h0:bt s i=92
  ·have q0:((s[i]'(by omega)).toNat:Int)=92:=by omega
   have t0:(((s[i]'(by omega)).toNat:Int) != 92)=false:=by rw[bne_eq_false_iff_eq]; omega
   by_cases h1:bt s (i+1)=117
   ·have t1:(((s[i+1]'(by omega)).toNat:Int) != 117)=false:=by rw[bne_eq_false_iff_eq]; omega
    have HU:Hid (unit s i=hexN s (i+2) 4):=by show _=_; unfold unit; rw[if_pos ⟨h0,h1⟩]
    have dl:decide ((s.size:Int) < (i:Int)+6)=false:=by simp; omega
    clear h0 h1 e0 e1 q0
    go_enter Tryz.func162,Tryz.ntmps162
    go_wp2
    clear t0 t1 dl hl'
    go_loopw [5,6] (fun v k wr=>∃ j u:Nat,j≤4∧k = .int .i64 ((j+2:Nat) : Int)∧u < 16 ^ j∧v = .int .i64 (u:Int)∧hexN s (i+2) j=some u∧w=wr) (fun _ k _=>6 - (intOf k).toNat)
    case atStart=>exact⟨0,0,by omega,rfl,by decide,rfl,rfl,rfl⟩
    case round=>
     obtain⟨j,u,hj,rfl,hu,rfl,hx,rfl⟩:=hrel
     have HV:=hide hx
     clear hx
     by_cases h4:j < 4
     ·have hu65:u < 65536:=by
       have:(16:Nat) ^ j≤16 ^ 3:=Nat.pow_le_pow_right (by decide) (by omega)
       omega
      have hin:i+(j+2) < s.size:=by omega
      have HC:=hide (l1Hex_walk ((s[i+(j+2)]'hin).toNat) (UInt8.toNat_lt _) w)
      have eb:bt s (i+2+j)=(s[i+(j+2)]'hin).toNat:=by rw[show i+2+j=i+(j+2) from by omega]; exact bt_at s _ hin
      cases hx1:hx ((s[i+(j+2)]'hin).toNat) with
      | some d=>
       have hd:=hx_lt hx1
       have HX:=hide (hexN_next (uh HV) (by rw[eb]; exact hx1))
       rw[hx1] at HC
       have hd0:¬ ((d:Int) < 0):=by omega
       clear hx1 eb
       go_wp2_with fail
       refine (uh HC).mono ?_
       rintro e w1 ⟨rfl,rfl⟩
       clear HC
       simp only[optI,Option.elim]
       go_wp2
       go_roundw
       case rel=>exact⟨j+1,u*16+d,by omega,by go_num,by rw[Nat.pow_succ]; omega,by go_num,uh HX,trivial⟩
       case measure=>simp[intOf]; omega
      | none=>
       have HX:Hid (hexN s (i+2) 4=none):=hexN_none (hexN_bad (by rw[eb]; exact hx1)) (by omega)
       rw[hx1] at HC
       clear hx1 eb
       go_wp2_with fail
       refine (uh HC).mono ?_
       rintro e w1 ⟨rfl,rfl⟩
       clear HC
       simp only[optI,Option.elim]
       go_wp2
       go_ret
       exact⟨rfl,by rw[uh HU,uh HX]; rfl⟩
     ·have e4:j=4:=by omega
      subst e4
      go_wp2
      go_ret
      exact⟨rfl,by rw[uh HU,uh HV]; rfl⟩
   ·have t1:(((s[i+1]'(by omega)).toNat:Int) != 117)=true:=by rw[bne_iff_ne]; omega
    have HU:Hid (unit s i=none):=by show _=_; unfold unit; rw[if_neg (fun h=>h1 h.2)]
    clear h0 h1 e0 e1 q0
    go_enter Tryz.func162,Tryz.ntmps162
    go_wp2
    go_ret
    exact⟨rfl,by rw[uh HU]; rfl⟩
  ·have t0:(((s[i]'(by omega)).toNat:Int) != 92)=true:=by rw[bne_iff_ne]; omega
   have HU:Hid (unit s i=none):=by show _=_; unfold unit; rw[if_neg (fun h=>h0 h.1)]
   clear h0 e0 e1
   go_enter Tryz.func162,Tryz.ntmps162
   go_wp2
   go_ret
   exact⟨rfl,by rw[uh HU]; rfl⟩
 ·have hl':(s.size:Int) < (i:Int)+6:=by omega
  have HU:=hide (unit_short (s:=s) (i:=i) (by omega))
  go_enter Tryz.func162,Tryz.ntmps162
  go_wp2
  go_ret
  exact⟨rfl,by rw[uh HU]; rfl⟩
theorem strOf_ext {b:ByteArray} {l:List UInt8} (h:b.data.toList=l) : b=strOf l:=by
 subst h
 cases b with
 | mk d=>simp[strOf]
theorem ext_str (s:ByteArray) (i n:Nat) (l:List UInt8) (h:(s.data.toList.drop i).take n=l) : s.extract i (i+n)=strOf l:=by
 refine strOf_ext ?_
 rw[Lib.extract_data,show i+n - i=n from by omega,h]
theorem enc_low {r:Nat} (h:r < 128) : enc r=[UInt8.ofNat r]:=by
 unfold enc; rw[← utf_enc (by omega) (by omega)]; unfold utf utfZ; rw[if_pos h]; rfl
theorem enc_utf {r:Nat} (h:r≤1114111) (h':r < 55296∨57344≤r) : utf r=enc r:=utf_enc h h'
abbrev PNone (w:World) (e:Ending) (w':World) : Prop:=(∃ t,e = .returned (.tuple #[.string t,.int .i64 0]))∧Below w.heap.size w w'
abbrev PSome (w:World) (t:ByteArray) (n:Nat) (e:Ending) (w':World) : Prop:=e = .returned (.tuple #[.string t,.int .i64 (n:Int)])∧Below w.heap.size w w'
theorem pc_bad (s:ByteArray) (i:Nat) (w:World) (hs:s.size≤1048576) (hi:i < s.size) (h:128≤s[i].toNat) (hr:rl s i=0) :
  Calls Tryz.prog 125 #[.string s,.int .i64 i] w (PNone w):=by
 have HR:=hide (rl_walk s i w hi hs)
 rw[hr] at HR
 have h':(128:Int)≤(s[i].toNat:Int):=by omega
 clear hr
 go_enter Tryz.func125,Tryz.ntmps125
 go_wp2_with fail
 refine (uh HR).mono ?_
 rintro e w1 ⟨rfl,b1⟩
 clear HR
 go_wp2
 go_ret2
 exact⟨⟨_,rfl⟩,b1⟩
theorem pc_multi (s:ByteArray) (i:Nat) (w:World) (hs:s.size≤1048576) (hi:i < s.size) (h:128≤s[i].toNat) (hr:¬ rl s i=0) :
  Calls Tryz.prog 125 #[.string s,.int .i64 i] w (PSome w (strOf (enc (Utf8.decode s i).1)) (rl s i)):=by
 have HR:=hide (rl_walk s i w hi hs)
 have hle:=rl_le s i hi
 have HE:Hid (s.extract i (i+rl s i)=strOf (enc (Utf8.decode s i).1)):=ext_str s i (rl s i) _ (enc_multi s i hi hr (by omega)).1.symm
 have h':(128:Int)≤(s[i].toNat:Int):=by omega
 clear hr
 generalize strOf (enc (Utf8.decode s i).1)=t at *
 generalize rl s i=n at *
 go_enter Tryz.func125,Tryz.ntmps125
 go_wp2_with fail
 refine (uh HR).mono ?_
 rintro e w1 ⟨rfl,b1⟩
 clear HR
 go_wp2
 go_ret2
 exact⟨by rw[← uh HE]; rfl,b1⟩
theorem pc_ctl (s:ByteArray) (i:Nat) (w:World) (hi:i < s.size) (h:s[i].toNat < 32) :
  Calls Tryz.prog 125 #[.string s,.int .i64 i] w (PNone w):=by
 have h1:¬ (128:Int)≤(s[i].toNat:Int):=by omega
 have h2:((s[i].toNat:Int) != 92)=true:=by rw[bne_iff_ne]; omega
 have h3:(s[i].toNat:Int) < 32:=by omega
 go_enter Tryz.func125,Tryz.ntmps125
 go_wp2
 go_ret2
 exact⟨⟨_,rfl⟩,Below.refl _ _⟩
theorem pc_asc (s:ByteArray) (i:Nat) (w:World) (hs:s.size≤1048576) (hi:i < s.size) (h32:32≤s[i].toNat) (h128:s[i].toNat < 128) (h92:s[i].toNat≠92) (h34:s[i].toNat≠34) :
  Calls Tryz.prog 125 #[.string s,.int .i64 i] w (PSome w (strOf (enc s[i].toNat)) 1):=by
 have h1:¬ (128:Int)≤(s[i].toNat:Int):=by omega
 have h2:((s[i].toNat:Int) != 92)=true:=by rw[bne_iff_ne]; omega
 have h3:¬ (s[i].toNat:Int) < 32:=by omega
 have h4:((s[i].toNat:Int) == 34)=false:=by rw[beq_eq_false_iff_ne]; omega
 have d3:decide ((s[i].toNat:Int) < 32)=false:=by simp; omega
 have HE:Hid (s.extract i (i+1)=strOf (enc s[i].toNat)):=ext_str s i 1 _ (by rw[enc_low h128,byte_eq,drop_at s i hi]; rfl)
 clear h32 h128 h92 h34
 go_enter Tryz.func125,Tryz.ntmps125
 go_wp2
 go_ret2
 exact⟨by rw[← uh HE]; rfl,Below.refl _ _⟩
theorem pc_simple (s:ByteArray) (i:Nat) (w:World) (hs:s.size≤1048576) (hi:i+1 < s.size) (h:s[i].toNat=92) (v:Nat) (hv:smp s[i+1].toNat=some v) :
  Calls Tryz.prog 125 #[.string s,.int .i64 i] w (PSome w (strOf (enc v)) 2):=by
 have h1:¬ (128:Int)≤(s[i].toNat:Int):=by omega
 have h2:((s[i].toNat:Int) != 92)=false:=by rw[bne_eq_false_iff_eq]; omega
 have HS:Hid (∀ w,Calls Tryz.prog 161 #[.int .u8 (s[i+1].toNat:Int)] w fun e w'=>e = .returned (.int .i64 (v:Int))∧Below w.heap.size w w'):=fun w=>by
  have c:=l1Simple_walk s[i+1].toNat (UInt8.toNat_lt _) w
  rw[hv] at c; exact c
 have hv128:=smp_lt hv
 have hu:utf v=enc v:=enc_utf (by omega) (by omega)
 have HCV:Hid (∀ w:World,(convert 37 9 (.slice (some ⟨w.heap.size,0,none⟩) 1 1)).run Tryz.prog (w.alloc (.cells #[.int .u8 (v:Int)] 5)) = .ok (.string (strOf (enc v))) (w.alloc (.cells #[.int .u8 (v:Int)] 5))):=fun w=>by
  rw[← hu]
  exact convert_bytes w (utf v) #[.int .u8 (v:Int)] 1 (by simp[utf,utfZ,hv128]) (by simp[utf,utfZ,hv128,Lib.byteCells]; omega)
 have hv0:(0:Int)≤(v:Int):=by omega
 have i1:(i:Int)+1 < (s.size:Int):=by omega
 clear hu hv
 generalize strOf (enc v)=t at *
 go_enter Tryz.func125,Tryz.ntmps125
 go_wp2_with fail
 refine (uh HS _).mono ?_
 rintro e w1 ⟨rfl,b1⟩
 go_wp2_with fail
 refine (uh HS _).mono ?_
 rintro e w2 ⟨rfl,b2⟩
 have B2:=below_next b1 b2
 have hcv:=uh HCV w2
 clear HS HCV b1 b2
 go_wp2
 go_ret2
 exact⟨rfl,B2.alloc B2.size _⟩
theorem pc_end (s:ByteArray) (i:Nat) (w:World) (hs:s.size≤1048576) (hi:i < s.size) (hi':¬ i+1 < s.size) (h:s[i].toNat=92) :
  Calls Tryz.prog 125 #[.string s,.int .i64 i] w (PNone w):=by
 have h1:¬ (128:Int)≤(s[i].toNat:Int):=by omega
 have h2:((s[i].toNat:Int) != 92)=false:=by rw[bne_eq_false_iff_eq]; omega
 have HU:Hid (∀ w,Calls Tryz.prog 162 #[.string s,.int .i64 ((i:Int))] w fun e w'=>w=w'∧e = .returned (.int .i64 (-1))):=fun w=>by
  have c:=l1Unit_walk s i hs (by omega) w
  rw[unit_short (by omega)] at c; exact c
 have i1:¬ (i:Int)+1 < (s.size:Int):=by omega
 have di:decide ((i:Int)+1 < (s.size:Int))=false:=by simp; omega
 go_enter Tryz.func125,Tryz.ntmps125
 go_wp2_with fail
 refine (uh HU _).mono ?_
 rintro e w2 ⟨rfl,rfl⟩
 clear HU
 go_wp2
 go_ret2
 exact⟨⟨_,rfl⟩,Below.refl _ _⟩
theorem pc_nounit (s:ByteArray) (i:Nat) (w:World) (hs:s.size≤1048576) (hi:i+1 < s.size) (h:s[i].toNat=92) (hv:smp s[i+1].toNat=none) (hu:unit s i=none) :
  Calls Tryz.prog 125 #[.string s,.int .i64 i] w (PNone w):=by
 have h1:¬ (128:Int)≤(s[i].toNat:Int):=by omega
 have h2:((s[i].toNat:Int) != 92)=false:=by rw[bne_eq_false_iff_eq]; omega
 have HS:Hid (∀ w,Calls Tryz.prog 161 #[.int .u8 (s[i+1].toNat:Int)] w fun e w'=>e = .returned (.int .i64 (-1))∧Below w.heap.size w w'):=fun w=>by
  have c:=l1Simple_walk s[i+1].toNat (UInt8.toNat_lt _) w
  rw[hv] at c; exact c
 have i1:(i:Int)+1 < (s.size:Int):=by omega
 have HU:Hid (∀ w,Calls Tryz.prog 162 #[.string s,.int .i64 ((i:Int))] w fun e w'=>w=w'∧e = .returned (.int .i64 (-1))):=fun w=>by
  have c:=l1Unit_walk s i hs (by omega) w
  rw[hu] at c; exact c
 clear hv hu
 go_enter Tryz.func125,Tryz.ntmps125
 go_wp2_with fail
 refine (uh HS _).mono ?_
 rintro e w1 ⟨rfl,b1⟩
 go_wp2_with fail
 refine (uh HU _).mono ?_
 rintro e w2 ⟨rfl,rfl⟩
 clear HS HU
 go_wp2
 go_ret2
 exact⟨⟨_,rfl⟩,b1⟩
theorem pc_low (s:ByteArray) (i:Nat) (w:World) (hs:s.size≤1048576) (hi:i+1 < s.size) (h:s[i].toNat=92) (hv:smp s[i+1].toNat=none) (u:Nat) (hu:unit s i=some u)  (hlow:u < 55296) :
  Calls Tryz.prog 125 #[.string s,.int .i64 i] w (PSome w (strOf (enc u)) 6):=by
 have h1:¬ (128:Int)≤(s[i].toNat:Int):=by omega
 have h2:((s[i].toNat:Int) != 92)=false:=by rw[bne_eq_false_iff_eq]; omega
 have HS:Hid (∀ w,Calls Tryz.prog 161 #[.int .u8 (s[i+1].toNat:Int)] w fun e w'=>e = .returned (.int .i64 (-1))∧Below w.heap.size w w'):=fun w=>by
  have c:=l1Simple_walk s[i+1].toNat (UInt8.toNat_lt _) w
  rw[hv] at c; exact c
 have i1:(i:Int)+1 < (s.size:Int):=by omega
 have HU:Hid (∀ w,Calls Tryz.prog 162 #[.string s,.int .i64 ((i:Int))] w fun e w'=>w=w'∧e = .returned (.int .i64 ((u:Int)))):=fun w=>by
  have c:=l1Unit_walk s i hs (by omega) w
  rw[hu] at c; exact c
 have HV:Hid (∀ w,Calls Tryz.prog 163 #[.int .i64 (u:Int)] w fun e w'=>e = .returned (.string (strOf (enc u)))∧Below w.heap.size w w'):=fun w=>by
  have c:=utf8_walk u w (by omega)
  rw[enc_utf (by omega) (by omega)] at c; exact c
 have u0:((u:Int) < 0)=False:=eq_false (by omega)
 have u1:((56320:Int)≤(u:Int))=False:=eq_false (by omega)
 have u2:((u:Int) < 55296)=True:=eq_true (by omega)
 clear hv hu
 generalize strOf (enc u)=t at *
 go_enter Tryz.func125,Tryz.ntmps125
 go_wp2_with fail
 refine (uh HS _).mono ?_
 rintro e w1 ⟨rfl,b1⟩
 go_wp2_with fail
 refine (uh HU _).mono ?_
 rintro e w2 ⟨rfl,rfl⟩
 clear HS HU
 go_wp2_with fail
 refine (uh HV _).mono ?_
 rintro e w3 ⟨rfl,b3⟩
 have B3:=below_next b1 b3
 clear HV
 go_wp2
 go_ret2
 exact⟨rfl,B3⟩
theorem pc_high (s:ByteArray) (i:Nat) (w:World) (hs:s.size≤1048576) (hi:i+1 < s.size) (h:s[i].toNat=92) (hv:smp s[i+1].toNat=none) (u:Nat) (hu:unit s i=some u)  (hhi:57344≤u) (hu65:u≤65535) :
  Calls Tryz.prog 125 #[.string s,.int .i64 i] w (PSome w (strOf (enc u)) 6):=by
 have h1:¬ (128:Int)≤(s[i].toNat:Int):=by omega
 have h2:((s[i].toNat:Int) != 92)=false:=by rw[bne_eq_false_iff_eq]; omega
 have HS:Hid (∀ w,Calls Tryz.prog 161 #[.int .u8 (s[i+1].toNat:Int)] w fun e w'=>e = .returned (.int .i64 (-1))∧Below w.heap.size w w'):=fun w=>by
  have c:=l1Simple_walk s[i+1].toNat (UInt8.toNat_lt _) w
  rw[hv] at c; exact c
 have i1:(i:Int)+1 < (s.size:Int):=by omega
 have HU:Hid (∀ w,Calls Tryz.prog 162 #[.string s,.int .i64 ((i:Int))] w fun e w'=>w=w'∧e = .returned (.int .i64 ((u:Int)))):=fun w=>by
  have c:=l1Unit_walk s i hs (by omega) w
  rw[hu] at c; exact c
 have HV:Hid (∀ w,Calls Tryz.prog 163 #[.int .i64 (u:Int)] w fun e w'=>e = .returned (.string (strOf (enc u)))∧Below w.heap.size w w'):=fun w=>by
  have c:=utf8_walk u w (by omega)
  rw[enc_utf (by omega) (by omega)] at c; exact c
 have u0:((u:Int) < 0)=False:=eq_false (by omega)
 have u1:((56320:Int)≤(u:Int))=True:=eq_true (by omega)
 have u2:((u:Int) < 57344)=False:=eq_false (by omega)
 have u3:((u:Int) < 55296)=False:=eq_false (by omega)
 have u4:((57344:Int)≤(u:Int))=True:=eq_true (by omega)
 clear hv hu
 generalize strOf (enc u)=t at *
 go_enter Tryz.func125,Tryz.ntmps125
 go_wp2_with fail
 refine (uh HS _).mono ?_
 rintro e w1 ⟨rfl,b1⟩
 go_wp2_with fail
 refine (uh HU _).mono ?_
 rintro e w2 ⟨rfl,rfl⟩
 clear HS HU
 go_wp2_with fail
 refine (uh HV _).mono ?_
 rintro e w3 ⟨rfl,b3⟩
 have B3:=below_next b1 b3
 clear HV
 go_wp2
 go_ret2
 exact⟨rfl,B3⟩
theorem pc_sur2 (s:ByteArray) (i:Nat) (w:World) (hs:s.size≤1048576) (hi:i+1 < s.size) (h:s[i].toNat=92) (hv:smp s[i+1].toNat=none) (u:Nat) (hu:unit s i=some u)  (hlo:56320≤u) (hhi:u≤57343) :
  Calls Tryz.prog 125 #[.string s,.int .i64 i] w (PNone w):=by
 have h1:¬ (128:Int)≤(s[i].toNat:Int):=by omega
 have h2:((s[i].toNat:Int) != 92)=false:=by rw[bne_eq_false_iff_eq]; omega
 have HS:Hid (∀ w,Calls Tryz.prog 161 #[.int .u8 (s[i+1].toNat:Int)] w fun e w'=>e = .returned (.int .i64 (-1))∧Below w.heap.size w w'):=fun w=>by
  have c:=l1Simple_walk s[i+1].toNat (UInt8.toNat_lt _) w
  rw[hv] at c; exact c
 have i1:(i:Int)+1 < (s.size:Int):=by omega
 have HU:Hid (∀ w,Calls Tryz.prog 162 #[.string s,.int .i64 ((i:Int))] w fun e w'=>w=w'∧e = .returned (.int .i64 ((u:Int)))):=fun w=>by
  have c:=l1Unit_walk s i hs (by omega) w
  rw[hu] at c; exact c
 have u0:((u:Int) < 0)=False:=eq_false (by omega)
 have u1:((56320:Int)≤(u:Int))=True:=eq_true (by omega)
 have u2:((u:Int) < 57344)=True:=eq_true (by omega)
 clear hv hu
 go_enter Tryz.func125,Tryz.ntmps125
 go_wp2_with fail
 refine (uh HS _).mono ?_
 rintro e w1 ⟨rfl,b1⟩
 go_wp2_with fail
 refine (uh HU _).mono ?_
 rintro e w2 ⟨rfl,rfl⟩
 clear HS HU
 go_wp2
 go_ret2
 exact⟨⟨_,rfl⟩,b1⟩
theorem pc_no2 (s:ByteArray) (i:Nat) (w:World) (hs:s.size≤1048576) (hi:i+1 < s.size) (h:s[i].toNat=92) (hv:smp s[i+1].toNat=none) (u:Nat) (hu:unit s i=some u)  (hlo:55296≤u) (hhi:u≤56319) (hu2:unit s (i+6)=none) :
  Calls Tryz.prog 125 #[.string s,.int .i64 i] w (PNone w):=by
 have h1:¬ (128:Int)≤(s[i].toNat:Int):=by omega
 have h2:((s[i].toNat:Int) != 92)=false:=by rw[bne_eq_false_iff_eq]; omega
 have HS:Hid (∀ w,Calls Tryz.prog 161 #[.int .u8 (s[i+1].toNat:Int)] w fun e w'=>e = .returned (.int .i64 (-1))∧Below w.heap.size w w'):=fun w=>by
  have c:=l1Simple_walk s[i+1].toNat (UInt8.toNat_lt _) w
  rw[hv] at c; exact c
 have i1:(i:Int)+1 < (s.size:Int):=by omega
 have HU:Hid (∀ w,Calls Tryz.prog 162 #[.string s,.int .i64 ((i:Int))] w fun e w'=>w=w'∧e = .returned (.int .i64 ((u:Int)))):=fun w=>by
  have c:=l1Unit_walk s i hs (by omega) w
  rw[hu] at c; exact c
 have HU2:Hid (∀ w,Calls Tryz.prog 162 #[.string s,.int .i64 ((i:Int)+6)] w fun e w'=>w=w'∧e = .returned (.int .i64 (-1))):=fun w=>by
  have c:=l1Unit_walk s (i+6) hs (by omega) w
  rw[hu2] at c; exact c
 have u0:((u:Int) < 0)=False:=eq_false (by omega)
 have u1:((56320:Int)≤(u:Int))=False:=eq_false (by omega)
 have u2:((u:Int) < 55296)=False:=eq_false (by omega)
 have u3:((57344:Int)≤(u:Int))=False:=eq_false (by omega)
 clear hv hu hu2
 go_enter Tryz.func125,Tryz.ntmps125
 go_wp2_with fail
 refine (uh HS _).mono ?_
 rintro e w1 ⟨rfl,b1⟩
 go_wp2_with fail
 refine (uh HU _).mono ?_
 rintro e w2 ⟨rfl,rfl⟩
 go_wp2_with fail
 refine (uh HU2 _).mono ?_
 rintro e w3 ⟨rfl,rfl⟩
 clear HS HU HU2
 go_wp2
 go_ret2
 exact⟨⟨_,rfl⟩,b1⟩
theorem pc_lo2 (s:ByteArray) (i:Nat) (w:World) (hs:s.size≤1048576) (hi:i+1 < s.size) (h:s[i].toNat=92) (hv:smp s[i+1].toNat=none) (u:Nat) (hu:unit s i=some u)  (hlo:55296≤u) (hhi:u≤56319) (v:Nat) (hu2:unit s (i+6)=some v) (hv2:v≤56319) :
  Calls Tryz.prog 125 #[.string s,.int .i64 i] w (PNone w):=by
 have h1:¬ (128:Int)≤(s[i].toNat:Int):=by omega
 have h2:((s[i].toNat:Int) != 92)=false:=by rw[bne_eq_false_iff_eq]; omega
 have HS:Hid (∀ w,Calls Tryz.prog 161 #[.int .u8 (s[i+1].toNat:Int)] w fun e w'=>e = .returned (.int .i64 (-1))∧Below w.heap.size w w'):=fun w=>by
  have c:=l1Simple_walk s[i+1].toNat (UInt8.toNat_lt _) w
  rw[hv] at c; exact c
 have i1:(i:Int)+1 < (s.size:Int):=by omega
 have HU:Hid (∀ w,Calls Tryz.prog 162 #[.string s,.int .i64 ((i:Int))] w fun e w'=>w=w'∧e = .returned (.int .i64 ((u:Int)))):=fun w=>by
  have c:=l1Unit_walk s i hs (by omega) w
  rw[hu] at c; exact c
 have HU2:Hid (∀ w,Calls Tryz.prog 162 #[.string s,.int .i64 ((i:Int)+6)] w fun e w'=>w=w'∧e = .returned (.int .i64 ((v:Int)))):=fun w=>by
  have c:=l1Unit_walk s (i+6) hs (by omega) w
  rw[hu2] at c; exact c
 have u0:((u:Int) < 0)=False:=eq_false (by omega)
 have u1:((56320:Int)≤(u:Int))=False:=eq_false (by omega)
 have u2:((u:Int) < 55296)=False:=eq_false (by omega)
 have u3:((57344:Int)≤(u:Int))=False:=eq_false (by omega)
 have v1:((v:Int) < 56320)=True:=eq_true (by omega)
 clear hv hu hu2
 go_enter Tryz.func125,Tryz.ntmps125
 go_wp2_with fail
 refine (uh HS _).mono ?_
 rintro e w1 ⟨rfl,b1⟩
 go_wp2_with fail
 refine (uh HU _).mono ?_
 rintro e w2 ⟨rfl,rfl⟩
 go_wp2_with fail
 refine (uh HU2 _).mono ?_
 rintro e w3 ⟨rfl,rfl⟩
 clear HS HU HU2
 go_wp2
 go_ret2
 exact⟨⟨_,rfl⟩,b1⟩
theorem pc_hi2 (s:ByteArray) (i:Nat) (w:World) (hs:s.size≤1048576) (hi:i+1 < s.size) (h:s[i].toNat=92) (hv:smp s[i+1].toNat=none) (u:Nat) (hu:unit s i=some u)  (hlo:55296≤u) (hhi:u≤56319) (v:Nat) (hu2:unit s (i+6)=some v) (hv2:57344≤v) :
  Calls Tryz.prog 125 #[.string s,.int .i64 i] w (PNone w):=by
 have h1:¬ (128:Int)≤(s[i].toNat:Int):=by omega
 have h2:((s[i].toNat:Int) != 92)=false:=by rw[bne_eq_false_iff_eq]; omega
 have HS:Hid (∀ w,Calls Tryz.prog 161 #[.int .u8 (s[i+1].toNat:Int)] w fun e w'=>e = .returned (.int .i64 (-1))∧Below w.heap.size w w'):=fun w=>by
  have c:=l1Simple_walk s[i+1].toNat (UInt8.toNat_lt _) w
  rw[hv] at c; exact c
 have i1:(i:Int)+1 < (s.size:Int):=by omega
 have HU:Hid (∀ w,Calls Tryz.prog 162 #[.string s,.int .i64 ((i:Int))] w fun e w'=>w=w'∧e = .returned (.int .i64 ((u:Int)))):=fun w=>by
  have c:=l1Unit_walk s i hs (by omega) w
  rw[hu] at c; exact c
 have HU2:Hid (∀ w,Calls Tryz.prog 162 #[.string s,.int .i64 ((i:Int)+6)] w fun e w'=>w=w'∧e = .returned (.int .i64 ((v:Int)))):=fun w=>by
  have c:=l1Unit_walk s (i+6) hs (by omega) w
  rw[hu2] at c; exact c
 have u0:((u:Int) < 0)=False:=eq_false (by omega)
 have u1:((56320:Int)≤(u:Int))=False:=eq_false (by omega)
 have u2:((u:Int) < 55296)=False:=eq_false (by omega)
 have u3:((57344:Int)≤(u:Int))=False:=eq_false (by omega)
 have v1:((v:Int) < 56320)=False:=eq_false (by omega)
 have v2:((57344:Int)≤(v:Int))=True:=eq_true (by omega)
 clear hv hu hu2
 go_enter Tryz.func125,Tryz.ntmps125
 go_wp2_with fail
 refine (uh HS _).mono ?_
 rintro e w1 ⟨rfl,b1⟩
 go_wp2_with fail
 refine (uh HU _).mono ?_
 rintro e w2 ⟨rfl,rfl⟩
 go_wp2_with fail
 refine (uh HU2 _).mono ?_
 rintro e w3 ⟨rfl,rfl⟩
 clear HS HU HU2
 go_wp2
 go_ret2
 exact⟨⟨_,rfl⟩,b1⟩
theorem pc_pair (s:ByteArray) (i:Nat) (w:World) (hs:s.size≤1048576) (hi:i+1 < s.size) (h:s[i].toNat=92) (hv:smp s[i+1].toNat=none) (u:Nat) (hu:unit s i=some u)  (hlo:55296≤u) (hhi:u≤56319) (v:Nat) (hu2:unit s (i+6)=some v) (hlo2:56320≤v) (hhi2:v≤57343) :
  Calls Tryz.prog 125 #[.string s,.int .i64 i] w (PSome w (strOf (enc (65536+(u - 55296)*1024+(v - 56320)))) 12):=by
 have h1:¬ (128:Int)≤(s[i].toNat:Int):=by omega
 have h2:((s[i].toNat:Int) != 92)=false:=by rw[bne_eq_false_iff_eq]; omega
 have HS:Hid (∀ w,Calls Tryz.prog 161 #[.int .u8 (s[i+1].toNat:Int)] w fun e w'=>e = .returned (.int .i64 (-1))∧Below w.heap.size w w'):=fun w=>by
  have c:=l1Simple_walk s[i+1].toNat (UInt8.toNat_lt _) w
  rw[hv] at c; exact c
 have i1:(i:Int)+1 < (s.size:Int):=by omega
 have HU:Hid (∀ w,Calls Tryz.prog 162 #[.string s,.int .i64 ((i:Int))] w fun e w'=>w=w'∧e = .returned (.int .i64 ((u:Int)))):=fun w=>by
  have c:=l1Unit_walk s i hs (by omega) w
  rw[hu] at c; exact c
 have HU2:Hid (∀ w,Calls Tryz.prog 162 #[.string s,.int .i64 ((i:Int)+6)] w fun e w'=>w=w'∧e = .returned (.int .i64 ((v:Int)))):=fun w=>by
  have c:=l1Unit_walk s (i+6) hs (by omega) w
  rw[hu2] at c; exact c
 have u0:((u:Int) < 0)=False:=eq_false (by omega)
 have u1:((56320:Int)≤(u:Int))=False:=eq_false (by omega)
 have u2:((u:Int) < 55296)=False:=eq_false (by omega)
 have u3:((57344:Int)≤(u:Int))=False:=eq_false (by omega)
 have v1:((v:Int) < 56320)=False:=eq_false (by omega)
 have v2:((57344:Int)≤(v:Int))=False:=eq_false (by omega)
 have HV:Hid (∀ w,Calls Tryz.prog 163 #[.int .i64 (65536+((u:Int) - 55296)*1024+(v:Int) - 56320)] w fun e w'=>e = .returned (.string (strOf (enc (65536+(u - 55296)*1024+(v - 56320)))))∧Below w.heap.size w w'):=fun w=>by
  have c:=utf8_at (65536+((u:Int) - 55296)*1024+(v:Int) - 56320) (65536+(u - 55296)*1024+(v - 56320)) (by omega) w (by omega)
  rw[enc_utf (by omega) (by omega)] at c; exact c
 clear hv hu hu2
 generalize strOf (enc (65536+(u - 55296)*1024+(v - 56320)))=t at *
 go_enter Tryz.func125,Tryz.ntmps125
 go_wp2_with fail
 refine (uh HS _).mono ?_
 rintro e w1 ⟨rfl,b1⟩
 go_wp2_with fail
 refine (uh HU _).mono ?_
 rintro e w2 ⟨rfl,rfl⟩
 go_wp2_with fail
 refine (uh HU2 _).mono ?_
 rintro e w3 ⟨rfl,rfl⟩
 clear HS HU HU2
 go_wp2_with fail
 refine (uh HV _).mono ?_
 rintro e w4 ⟨rfl,b4⟩
 have B4:=below_next b1 b4
 clear HV
 go_wp2
 go_ret2
 exact⟨rfl,B4⟩
def PPost (w:World) (o:Option (Nat×Nat)) (e:Ending) (w':World) : Prop:=o.elim (PNone w e w') fun p=>PSome w (strOf (enc p.1)) p.2 e w'
theorem l1Piece_walk (s:ByteArray) (i:Nat) (w:World) (hs:s.size≤1048576) (hi:i < s.size) (hq:bt s i≠34) :
  Calls Tryz.prog 125 #[.string s,.int .i64 i] w (PPost w (piece s i)):=by
 have e0:=bt_at s i hi
 by_cases h92:bt s i=92
 ·have hp:piece s i=escP s i:=by unfold piece; rw[if_pos h92]
  rw[hp]
  by_cases hi1:i+1 < s.size
  ·have e1:=bt_at s (i+1) hi1
   cases hv:smp (bt s (i+1)) with
   | some v=>
    rw[escP_s rfl hv]
    exact pc_simple s i w hs hi1 (by omega) v (by rw[← e1]; exact hv)
   | none=>
    have hv':smp s[i+1].toNat=none:=by rw[← e1]; exact hv
    have he:escP s i=(unit s i).bind (escU s i):=by unfold escP; rw[hv]
    rw[he]
    cases hu:unit s i with
    | none=>exact pc_nounit s i w hs hi1 (by omega) hv' hu
    | some u=>
     have hu65:=unit_lt hu
     simp only[Option.bind_some]
     unfold escU
     by_cases h1:u < 55296∨57344≤u
     ·rw[if_pos h1]
      rcases h1 with h1 | h1
      ·exact pc_low s i w hs hi1 (by omega) hv' u hu h1
      ·exact pc_high s i w hs hi1 (by omega) hv' u hu h1 (by omega)
     ·rw[if_neg h1]
      by_cases h2:56320≤u
      ·rw[if_pos h2]
       exact pc_sur2 s i w hs hi1 (by omega) hv' u hu h2 (by omega)
      ·rw[if_neg h2]
       cases hu2:unit s (i+6) with
       | none=>exact pc_no2 s i w hs hi1 (by omega) hv' u hu (by omega) (by omega) hu2
       | some v=>
        simp only[Option.bind_some]
        by_cases h3:56320≤v∧v < 57344
        ·rw[if_pos h3]
         exact pc_pair s i w hs hi1 (by omega) hv' u hu (by omega) (by omega) v hu2 h3.1 (by omega)
        ·rw[if_neg h3]
         by_cases h4:v < 56320
         ·exact pc_lo2 s i w hs hi1 (by omega) hv' u hu (by omega) (by omega) v hu2 (by omega)
         ·exact pc_hi2 s i w hs hi1 (by omega) hv' u hu (by omega) (by omega) v hu2 (by omega)
  ·have he:escP s i=none:=escP_n (b:=0) (bt_out s (i+1) (by omega)) (by rfl) (by decide)
   rw[he]
   exact pc_end s i w hs hi hi1 (by omega)
 ·unfold piece
  rw[if_neg h92]
  by_cases h32:bt s i < 32
  ·rw[if_pos h32]; exact pc_ctl s i w hi (by omega)
  ·rw[if_neg h32]
   by_cases h128:bt s i < 128
   ·rw[if_pos h128,e0]; exact pc_asc s i w hs hi (by omega) (by omega) (by omega) (by omega)
   ·rw[if_neg h128]
    by_cases hr:rl s i=0
    ·rw[if_pos hr]; exact pc_bad s i w hs hi (by omega) hr
    ·rw[if_neg hr]; exact pc_multi s i w hs hi (by omega) hr
def SPost (s:ByteArray) (w:World) (o:Option (List UInt8×Nat)) (e:Ending) (w':World) : Prop:=
 Below w.heap.size w w'∧o.elim (∃ (t:ByteArray) (k:Nat),k≤s.size+1∧t.size≤4*s.size+4∧e = .returned (.tuple #[.string t,.int .i64 (k:Int),.bool false])) fun q=>e = .returned (.tuple #[.string (strOf q.1),.int .i64 (q.2:Int),.bool true])
theorem l1String_walk (s:ByteArray) (i:Nat) (w:World) (hs:s.size≤1048576) (hi:i≤s.size+1) :
  Calls Tryz.prog 75 #[.string s,.int .i64 i] w (SPost s w (strQ s i)):=by
 obtain⟨i0,hi0,hz0,hz1,hz2⟩:=info_parts infoU8
 by_cases h34:bt s i=34
 ·have hlt:i < s.size:=bt_in (by rw[h34]; decide)
  have HQ:Hid (strQ s i=strR s (i+1)):=by show _=_; unfold strQ; rw[if_pos h34]
  have ha:atB s i 34=true:=by rw[atB_in hlt,beq_iff_eq,← bt_at s i hlt,h34]; rfl
  have HA:=hide (at_walk s (i:Int) i rfl 34 w)
  rw[ha] at HA
  clear h34 ha
  go_enter Tryz.func75,Tryz.ntmps75
  go_wp2_with fail
  refine (uh HA).mono ?_
  rintro e w1 ⟨rfl,rfl⟩
  clear HA
  go_wp2
  go_loopw [1,7] (fun k v wr=>∃ (j:Nat) (acc:List UInt8),j≤s.size∧k = .int .i64 (j:Int)∧acc.length≤4*j∧wr.ownsRow w.heap.size 5 1 v (Lib.byteCells acc).length (Lib.byteCells acc)∧Below w.heap.size w wr∧strR s (i+1)=(strR s j).map fun q=>(acc++q.1,q.2)) (fun k _ _=>s.size - (intOf k).toNat)
  case atStart=>
   exact⟨i+1,[],by omega,by go_num,by simp,⟨rfl,.inr ⟨w.heap.size,0,#[],rfl,Nat.le_refl _,heap_alloc_new w _,Nat.le_refl _,by unfold maxLen; omega,rfl,rfl⟩⟩,(Below.refl _ _).alloc (Nat.le_refl _) _,by simp⟩
  case round=>
   obtain⟨j,acc,hj,rfl,hal,hown,hb,hst⟩:=hrel
   have HST:=hide hst
   have HB:=hide hb
   have hwsz:=hb.size
   clear hst hb
   by_cases hin:j < s.size
   ·have e0:=bt_at s j hin
    have hin':(j:Int) < (s.size:Int):=by omega
    by_cases e34:bt s j=34
    ·have t1:((s[j].toNat:Int) != 34)=false:=by rw[bne_eq_false_iff_eq]; omega
     have HF:Hid (strQ s i=some (acc,j+1)):=by
      show _=_
      rw[uh HQ,uh HST,strR_end e34]; simp
     have hcv:=convert_own hown
     clear hown e34 e0
     go_wp2
     go_ret3
     exact⟨uh HB,by rw[uh HF]; rfl⟩
    ·have t1:((s[j].toNat:Int) != 34)=true:=by rw[bne_iff_ne]; omega
     have HC:=hide (l1Piece_walk s j wr hs hin e34)
     cases hp:piece s j with
     | none=>
      have HF:Hid (strQ s i=none):=by
       show _=_
       rw[uh HQ,uh HST,strR_bad e34 hp]; rfl
      rw[hp] at HC
      clear hown e34 e0 hp
      go_wp2_with fail
      refine (uh HC).mono ?_
      rintro e w2 ⟨⟨t,rfl⟩,b2⟩
      have B2:=below_next (uh HB) b2
      clear HC
      go_wp2
      go_ret3
      exact⟨B2,by rw[uh HF]; exact⟨_,j,by omega,Nat.zero_le _,rfl⟩⟩
     | some p=>
      obtain⟨r,n⟩:=p
      obtain⟨p1,p2,p3⟩:=piece_ok hp
      have hel:=enc_le r
      have HST2:Hid (strR s (i+1)=(strR s (j+n)).map fun q=>(acc++enc r++q.1,q.2)):=by
       show _=_
       rw[uh HST,strR_go e34 hp,Option.map_map]
       congr 1
       funext q
       simp
      rw[hp] at HC
      have t0:((n:Int) == 0)=false:=by rw[beq_eq_false_iff_ne]; omega
      clear e34 e0 hp
      go_wp2_with fail
      refine (uh HC).mono ?_
      rintro e w2 ⟨rfl,b2⟩
      have B2:=below_next (uh HB) b2
      have own2:=own_below hown b2
      obtain⟨cap,W3,hcv,hcell,b3,hk3,hs3⟩:=conv_bytes w2 (enc r)
      have own3:=hk3 _ _ _ _ _ own2
      have B3:=below_next B2 b3
      have HCELL:=hide hcell
      have hsz2:=B2.size
      clear HC hcell hk3 own2 hown b2 b3 HB B2
      go_wp2_with (at_builtin; refine wpList_append_own _ rfl (.tmp 37) (.tmp 39) 37 rfl w.heap.size 5 i0 (.int .u8 0) 1 1 Tryz.underlying37 hi0 hz0 hz1 hz2 rfl (by decide) _ _ _ rfl own3 ⟨w2.heap.size,0,none⟩ (enc r).length cap (Lib.byteCells (enc r)) rfl (by rw[Lib.byteCells_length]; omega) (uh HCELL) (one_bytes (enc r)) (by rw[Lib.byteCells_length]; unfold maxLen; omega) (by rw[Lib.byteCells_length]; omega) (by omega) ?_)
      intro v4 w4 own4 hg4 _
      have B4:Below w.heap.size w w4:=B3.grown hg4 (by omega) (fun k hk=>(own3.lt k hk).1)
      have own4':=own_step (m:=(enc r)) own4 rfl rfl
      clear own4 hg4 own3 HCELL B3 hcv
      go_wp2
      go_roundw
      case rel=>exact⟨j+n,acc++(enc r),by omega,by go_num,by rw[List.length_append]; omega,own4',B4,uh HST2⟩
      case measure=>simp[intOf]; omega
   ·have hin':¬ (j:Int) < (s.size:Int):=by omega
    have d1:decide ((j:Int) < (s.size:Int))=false:=by simp; omega
    have HF:Hid (strQ s i=none):=by
     show _=_
     rw[uh HQ,uh HST,strR_out (by omega)]; rfl
    have hcv:=convert_own hown
    clear hown
    go_wp2
    go_ret3
    exact⟨uh HB,by rw[uh HF]; exact⟨_,j+1,by omega,by show acc.toArray.size≤_; simp; omega,rfl⟩⟩
 ·have HQ:Hid (strQ s i=none):=by show _=_; unfold strQ; rw[if_neg h34]
  have ha:atB s i 34=false:=by
   by_cases hlt:i < s.size
   ·rw[atB_in hlt,beq_eq_false_iff_ne,← bt_at s i hlt]; omega
   ·exact atB_out hlt
  have HA:=hide (at_walk s (i:Int) i rfl 34 w)
  rw[ha] at HA
  clear h34 ha
  go_enter Tryz.func75,Tryz.ntmps75
  go_wp2_with fail
  refine (uh HA).mono ?_
  rintro e w1 ⟨rfl,rfl⟩
  clear HA
  go_wp2
  go_ret3
  exact⟨Below.refl _ _,by rw[uh HQ]; exact⟨_,i,hi,Nat.zero_le _,rfl⟩⟩
theorem nxt_in {T:ByteArray} {j j2:Nat} (h:nxt T j=some j2) (hj:j < T.size) : j < j2∧j2≤T.size:=by
 unfold nxt at h
 split at h
 ·cases hq:strQ T j with
  | none=>rw[hq] at h; simp at h
  | some q=>
   obtain⟨l,n⟩:=q
   rw[hq] at h
   simp at h
   have:=strQ_ok hq
   omega
 ·injection h with h; omega
theorem tail_cases {T:ByteArray} {o j2 k g:Nat} (hj:j2≤T.size) (h:(if o=0∧stopAt T j2=true then some j2 else endF T g o j2)=some k) :
  (o≠0∧endF T g o j2=some k)∨(o=0∧j2=T.size∧j2=k)∨(o=0∧j2 < T.size∧bt T j2=44∧j2=k)∨(o=0∧j2 < T.size∧bt T j2=93∧j2=k)∨(o=0∧j2 < T.size∧bt T j2=125∧j2=k)∨(o=0∧j2 < T.size∧bt T j2≠44∧bt T j2≠93∧bt T j2≠125∧endF T g o j2=some k):=by
 by_cases ho:o=0
 ·by_cases hs:stopAt T j2=true
  ·rw[if_pos ⟨ho,hs⟩] at h
   injection h with h
   by_cases e:j2=T.size
   ·exact .inr (.inl ⟨ho,e,h⟩)
   ·have hl:j2 < T.size:=by omega
    unfold stopAt at hs
    simp[e] at hs
    rcases hs with (hs | hs) | hs
    ·exact .inr (.inr (.inl ⟨ho,hl,hs,h⟩))
    ·exact .inr (.inr (.inr (.inl ⟨ho,hl,hs,h⟩)))
    ·exact .inr (.inr (.inr (.inr (.inl ⟨ho,hl,hs,h⟩))))
  ·rw[if_neg (fun x=>hs x.2)] at h
   unfold stopAt at hs
   simp at hs
   exact .inr (.inr (.inr (.inr (.inr ⟨ho,by omega,hs.1.1.2,hs.1.2,hs.2,h⟩))))
 ·rw[if_neg (fun x=>ho x.1)] at h
  exact .inl ⟨ho,h⟩
theorem end_walk (T:ByteArray) (i k f:Nat) (w:World) (hT:T.size≤1048576) (h:endF T f 0 i=some k) :
  Calls Tryz.prog 76 #[.string T,.int .i64 (i:Int)] w fun e w'=>e = .returned (.int .i64 (k:Int))∧Below w.heap.size w w':=by
 have HST:Hid (∀ (j:Nat) (w:World),j < T.size→Calls Tryz.prog 75 #[.string T,.int .i64 j] w (SPost T w (strQ T j))):=fun j w hj=>l1String_walk T j w hT (by omega)
 have hi0:i < T.size:=by
  cases f with
  | zero=>simp[endF] at h
  | succ f=>
   rw[endF] at h
   split at h
   ·assumption
   ·cases h
 have H0:=hide h
 clear h
 go_enter Tryz.func76,Tryz.ntmps76
 go_wp2
 go_loopw [1,5] (fun iv ov wr=>∃ (j op g:Nat),iv = .int .i64 (j:Int)∧ov = .int .i64 (op:Int)∧j≤T.size∧op≤j∧endF T g op j=some k∧Below w.heap.size w wr) (fun iv _ _=>T.size - (intOf iv).toNat)
 case atStart=>exact⟨i,0,f,rfl,rfl,by omega,by omega,uh H0,Below.refl _ _⟩
 case round=>
  obtain⟨j,op,g,rfl,rfl,hj,hop,hg,bw⟩:=hrel
  clear H0
  obtain⟨g,rfl⟩ : ∃ g',g=g'+1:=by cases g with
   | zero=>simp[endF] at hg
   | succ g=>exact⟨g,rfl⟩
  rw[endF] at hg
  by_cases hl:j < T.size
  ·rw[if_pos hl] at hg
   have hltI:(j:Int) < (T.size:Int):=by omega
   have hb:=bt_at T j hl
   obtain⟨n,hn,o,ho,hz⟩ : ∃ j2,nxt T j=some j2∧∃ o,op1 (bt T j) op=some o∧(if o=0∧stopAt T j2=true then some j2 else endF T g o j2)=some k:=by
    cases hn:nxt T j with
    | none=>rw[hn] at hg; simp at hg
    | some j2=>
     rw[hn] at hg
     simp only[Option.bind_some] at hg
     cases ho:op1 (bt T j) op with
     | none=>rw[ho] at hg; simp at hg
     | some o=>rw[ho] at hg; exact⟨j2,rfl,o,rfl,by simpa using hg⟩
   clear hg
   have hnj:=nxt_in hn hl
   have hnT:=hnj.2
   have hjn:=hnj.1
   have hns:bt T j≠34→j+1=n:=fun h34=>by unfold nxt at hn; rw[if_neg h34] at hn; injection hn
   have hnq:bt T j=34→∃ l,strQ T j=some (l,n):=fun h34=>by
    unfold nxt at hn
    rw[if_pos h34] at hn
    cases hq:strQ T j with
    | none=>rw[hq] at hn; simp at hn
    | some q=>rw[hq] at hn; simp at hn; exact⟨q.1,by rw[← hn]⟩
   have ht:=tail_cases hnT hz
   have HB:=hide bw
   clear hn hz hnj bw
   by_cases c34:bt T j=34
   ·obtain⟨l,hq⟩:=hnq c34
    obtain rfl:op=o:=by rw[c34] at ho; injection ho
    have HSJ:=hide (uh HST j wr hl)
    rw[hq] at HSJ
    rw[hb] at c34
    have f34:((T[j].toNat:Int) == 34)=true:=by rw[beq_iff_eq]; omega
    have f91:((T[j].toNat:Int) == 91)=false:=by rw[beq_eq_false_iff_ne]; omega
    have f123:((T[j].toNat:Int) == 123)=false:=by rw[beq_eq_false_iff_ne]; omega
    have f93:((T[j].toNat:Int) == 93)=false:=by rw[beq_eq_false_iff_ne]; omega
    have f125:((T[j].toNat:Int) == 125)=false:=by rw[beq_eq_false_iff_ne]; omega
    clear hnq hns hq hb c34 HST ho
    rcases ht with ⟨h1,h2⟩ | ⟨h1,h2,h3⟩ | ⟨h1,h2,h3,h4⟩ | ⟨h1,h2,h3,h4⟩ | ⟨h1,h2,h3,h4⟩ | ⟨h1,h2,h3,h4,h5,h6⟩
    ·have tz:((op:Int) == 0)=false:=by rw[beq_eq_false_iff_ne]; omega
     have H2:=hide h2
     clear h1 h2
     go_wp2_with fail
     refine (uh HSJ).mono ?_
     rintro e w2 ⟨b2,rfl⟩
     have HB2:=hide (below_next (uh HB) b2)
     clear HSJ b2
     go_wp2
     go_roundw
     case rel=>exact⟨n,op,g,by go_num,by go_num,hnT,by omega,uh H2,uh HB2⟩
     case measure=>simp[intOf]; omega
    ·have tz:((op:Int) == 0)=true:=by rw[beq_iff_eq]; omega
     have te:((n:Int) == (T.size:Int))=true:=by rw[beq_iff_eq]; omega
     have HK:=hide h3
     clear h3
     clear h1 h2
     go_wp2_with fail
     refine (uh HSJ).mono ?_
     rintro e w2 ⟨b2,rfl⟩
     have HB2:=hide (below_next (uh HB) b2)
     clear HSJ b2
     go_wp2
     go_ret
     exact⟨by rw[← uh HK]; first | rfl | go_num,uh HB2⟩
    ·have tz:((op:Int) == 0)=true:=by rw[beq_iff_eq]; omega
     have te:((n:Int) == (T.size:Int))=false:=by rw[beq_eq_false_iff_ne]; omega
     have hlN:(n:Int) < (T.size:Int):=by omega
     have hbn:=bt_at T n h2
     rw[hbn] at h3
     have g44:((T[n].toNat:Int) == 44)=true:=by rw[beq_iff_eq]; omega
     have g93:((T[n].toNat:Int) == 93)=false:=by rw[beq_eq_false_iff_ne]; omega
     have g125:((T[n].toNat:Int) == 125)=false:=by rw[beq_eq_false_iff_ne]; omega
     clear hbn h3
     have HK:=hide h4
     clear h4
     clear h1
     go_wp2_with fail
     refine (uh HSJ).mono ?_
     rintro e w2 ⟨b2,rfl⟩
     have HB2:=hide (below_next (uh HB) b2)
     clear HSJ b2
     go_wp2
     go_ret
     exact⟨by rw[← uh HK]; first | rfl | go_num,uh HB2⟩
    ·have tz:((op:Int) == 0)=true:=by rw[beq_iff_eq]; omega
     have te:((n:Int) == (T.size:Int))=false:=by rw[beq_eq_false_iff_ne]; omega
     have hlN:(n:Int) < (T.size:Int):=by omega
     have hbn:=bt_at T n h2
     rw[hbn] at h3
     have g44:((T[n].toNat:Int) == 44)=false:=by rw[beq_eq_false_iff_ne]; omega
     have g93:((T[n].toNat:Int) == 93)=true:=by rw[beq_iff_eq]; omega
     have g125:((T[n].toNat:Int) == 125)=false:=by rw[beq_eq_false_iff_ne]; omega
     clear hbn h3
     have HK:=hide h4
     clear h4
     clear h1
     go_wp2_with fail
     refine (uh HSJ).mono ?_
     rintro e w2 ⟨b2,rfl⟩
     have HB2:=hide (below_next (uh HB) b2)
     clear HSJ b2
     go_wp2
     go_ret
     exact⟨by rw[← uh HK]; first | rfl | go_num,uh HB2⟩
    ·have tz:((op:Int) == 0)=true:=by rw[beq_iff_eq]; omega
     have te:((n:Int) == (T.size:Int))=false:=by rw[beq_eq_false_iff_ne]; omega
     have hlN:(n:Int) < (T.size:Int):=by omega
     have hbn:=bt_at T n h2
     rw[hbn] at h3
     have g44:((T[n].toNat:Int) == 44)=false:=by rw[beq_eq_false_iff_ne]; omega
     have g93:((T[n].toNat:Int) == 93)=false:=by rw[beq_eq_false_iff_ne]; omega
     have g125:((T[n].toNat:Int) == 125)=true:=by rw[beq_iff_eq]; omega
     clear hbn h3
     have HK:=hide h4
     clear h4
     clear h1
     go_wp2_with fail
     refine (uh HSJ).mono ?_
     rintro e w2 ⟨b2,rfl⟩
     have HB2:=hide (below_next (uh HB) b2)
     clear HSJ b2
     go_wp2
     go_ret
     exact⟨by rw[← uh HK]; first | rfl | go_num,uh HB2⟩
    ·have tz:((op:Int) == 0)=true:=by rw[beq_iff_eq]; omega
     have te:((n:Int) == (T.size:Int))=false:=by rw[beq_eq_false_iff_ne]; omega
     have hlN:(n:Int) < (T.size:Int):=by omega
     have hbn:=bt_at T n h2
     rw[hbn] at h3 h4 h5
     have g44:((T[n].toNat:Int) == 44)=false:=by rw[beq_eq_false_iff_ne]; omega
     have g93:((T[n].toNat:Int) == 93)=false:=by rw[beq_eq_false_iff_ne]; omega
     have g125:((T[n].toNat:Int) == 125)=false:=by rw[beq_eq_false_iff_ne]; omega
     clear hbn h3 h4 h5
     have H2:=hide h6
     clear h6
     clear h1
     go_wp2_with fail
     refine (uh HSJ).mono ?_
     rintro e w2 ⟨b2,rfl⟩
     have HB2:=hide (below_next (uh HB) b2)
     clear HSJ b2
     go_wp2
     go_roundw
     case rel=>exact⟨n,op,g,by go_num,by go_num,hnT,by omega,uh H2,uh HB2⟩
     case measure=>simp[intOf]; omega
   ·have hn1:(j:Int)+1=(n:Int):=by have:=hns c34; omega
    have hnx:=hns c34
    clear hnq hns
    by_cases c91:bt T j=91
    ·obtain rfl:op+1=o:=by rw[c91] at ho; injection ho
     rw[hb] at c91
     have f34:((T[j].toNat:Int) == 34)=false:=by rw[beq_eq_false_iff_ne]; omega
     have f91:((T[j].toNat:Int) == 91)=true:=by rw[beq_iff_eq]; omega
     have f123:((T[j].toNat:Int) == 123)=false:=by rw[beq_eq_false_iff_ne]; omega
     have f93:((T[j].toNat:Int) == 93)=false:=by rw[beq_eq_false_iff_ne]; omega
     have f125:((T[j].toNat:Int) == 125)=false:=by rw[beq_eq_false_iff_ne]; omega
     clear hb c91 HST ho c34
     rcases ht with ⟨h1,h2⟩ | ⟨h1,h2,h3⟩ | ⟨h1,h2,h3,h4⟩ | ⟨h1,h2,h3,h4⟩ | ⟨h1,h2,h3,h4⟩ | ⟨h1,h2,h3,h4,h5,h6⟩
     ·have tz:(((op:Int)+1) == 0)=false:=by rw[beq_eq_false_iff_ne]; omega
      have H2:=hide h2
      clear h1 h2
      go_wp2
      go_roundw
      case rel=>exact⟨n,op+1,g,by go_num,by go_num,hnT,by omega,uh H2,uh HB⟩
      case measure=>simp[intOf]; omega
     ·exfalso; omega
     ·exfalso; omega
     ·exfalso; omega
     ·exfalso; omega
     ·exfalso; omega
    by_cases c123:bt T j=123
    ·obtain rfl:op+1=o:=by rw[c123] at ho; injection ho
     rw[hb] at c123
     have f34:((T[j].toNat:Int) == 34)=false:=by rw[beq_eq_false_iff_ne]; omega
     have f91:((T[j].toNat:Int) == 91)=false:=by rw[beq_eq_false_iff_ne]; omega
     have f123:((T[j].toNat:Int) == 123)=true:=by rw[beq_iff_eq]; omega
     have f93:((T[j].toNat:Int) == 93)=false:=by rw[beq_eq_false_iff_ne]; omega
     have f125:((T[j].toNat:Int) == 125)=false:=by rw[beq_eq_false_iff_ne]; omega
     clear hb c123 HST ho c34 c91
     rcases ht with ⟨h1,h2⟩ | ⟨h1,h2,h3⟩ | ⟨h1,h2,h3,h4⟩ | ⟨h1,h2,h3,h4⟩ | ⟨h1,h2,h3,h4⟩ | ⟨h1,h2,h3,h4,h5,h6⟩
     ·have tz:(((op:Int)+1) == 0)=false:=by rw[beq_eq_false_iff_ne]; omega
      have H2:=hide h2
      clear h1 h2
      go_wp2
      go_roundw
      case rel=>exact⟨n,op+1,g,by go_num,by go_num,hnT,by omega,uh H2,uh HB⟩
      case measure=>simp[intOf]; omega
     ·exfalso; omega
     ·exfalso; omega
     ·exfalso; omega
     ·exfalso; omega
     ·exfalso; omega
    by_cases c93:bt T j=93
    ·have hop1:1≤op:=by rw[c93] at ho; cases op with
      | zero=>cases ho
      | succ n=>omega
     obtain rfl:op - 1=o:=by rw[c93] at ho; cases op with
      | zero=>cases ho
      | succ n=>injection ho
     rw[hb] at c93
     have f34:((T[j].toNat:Int) == 34)=false:=by rw[beq_eq_false_iff_ne]; omega
     have f91:((T[j].toNat:Int) == 91)=false:=by rw[beq_eq_false_iff_ne]; omega
     have f123:((T[j].toNat:Int) == 123)=false:=by rw[beq_eq_false_iff_ne]; omega
     have f93:((T[j].toNat:Int) == 93)=true:=by rw[beq_iff_eq]; omega
     have f125:((T[j].toNat:Int) == 125)=false:=by rw[beq_eq_false_iff_ne]; omega
     clear hb c93 HST ho c34 c91 c123
     rcases ht with ⟨h1,h2⟩ | ⟨h1,h2,h3⟩ | ⟨h1,h2,h3,h4⟩ | ⟨h1,h2,h3,h4⟩ | ⟨h1,h2,h3,h4⟩ | ⟨h1,h2,h3,h4,h5,h6⟩
     ·have tz:(((op:Int) - 1) == 0)=false:=by rw[beq_eq_false_iff_ne]; omega
      have H2:=hide h2
      clear h1 h2
      go_wp2
      go_roundw
      case rel=>exact⟨n,op - 1,g,by go_num,by go_num,hnT,by omega,uh H2,uh HB⟩
      case measure=>simp[intOf]; omega
     ·have tz:(((op:Int) - 1) == 0)=true:=by rw[beq_iff_eq]; omega
      have te:((n:Int) == (T.size:Int))=true:=by rw[beq_iff_eq]; omega
      have HK:=hide h3
      clear h3
      clear h1 h2
      go_wp2
      go_ret
      exact⟨by rw[← uh HK]; first | rfl | go_num,uh HB⟩
     ·have tz:(((op:Int) - 1) == 0)=true:=by rw[beq_iff_eq]; omega
      have te:((n:Int) == (T.size:Int))=false:=by rw[beq_eq_false_iff_ne]; omega
      have hlN:(n:Int) < (T.size:Int):=by omega
      have hbn:=bt_at T n h2
      rw[hbn] at h3
      have g44:((T[n].toNat:Int) == 44)=true:=by rw[beq_iff_eq]; omega
      have g93:((T[n].toNat:Int) == 93)=false:=by rw[beq_eq_false_iff_ne]; omega
      have g125:((T[n].toNat:Int) == 125)=false:=by rw[beq_eq_false_iff_ne]; omega
      clear hbn h3
      have HK:=hide h4
      clear h4
      clear h1
      go_wp2
      go_ret
      exact⟨by rw[← uh HK]; first | rfl | go_num,uh HB⟩
     ·have tz:(((op:Int) - 1) == 0)=true:=by rw[beq_iff_eq]; omega
      have te:((n:Int) == (T.size:Int))=false:=by rw[beq_eq_false_iff_ne]; omega
      have hlN:(n:Int) < (T.size:Int):=by omega
      have hbn:=bt_at T n h2
      rw[hbn] at h3
      have g44:((T[n].toNat:Int) == 44)=false:=by rw[beq_eq_false_iff_ne]; omega
      have g93:((T[n].toNat:Int) == 93)=true:=by rw[beq_iff_eq]; omega
      have g125:((T[n].toNat:Int) == 125)=false:=by rw[beq_eq_false_iff_ne]; omega
      clear hbn h3
      have HK:=hide h4
      clear h4
      clear h1
      go_wp2
      go_ret
      exact⟨by rw[← uh HK]; first | rfl | go_num,uh HB⟩
     ·have tz:(((op:Int) - 1) == 0)=true:=by rw[beq_iff_eq]; omega
      have te:((n:Int) == (T.size:Int))=false:=by rw[beq_eq_false_iff_ne]; omega
      have hlN:(n:Int) < (T.size:Int):=by omega
      have hbn:=bt_at T n h2
      rw[hbn] at h3
      have g44:((T[n].toNat:Int) == 44)=false:=by rw[beq_eq_false_iff_ne]; omega
      have g93:((T[n].toNat:Int) == 93)=false:=by rw[beq_eq_false_iff_ne]; omega
      have g125:((T[n].toNat:Int) == 125)=true:=by rw[beq_iff_eq]; omega
      clear hbn h3
      have HK:=hide h4
      clear h4
      clear h1
      go_wp2
      go_ret
      exact⟨by rw[← uh HK]; first | rfl | go_num,uh HB⟩
     ·have tz:(((op:Int) - 1) == 0)=true:=by rw[beq_iff_eq]; omega
      have te:((n:Int) == (T.size:Int))=false:=by rw[beq_eq_false_iff_ne]; omega
      have hlN:(n:Int) < (T.size:Int):=by omega
      have hbn:=bt_at T n h2
      rw[hbn] at h3 h4 h5
      have g44:((T[n].toNat:Int) == 44)=false:=by rw[beq_eq_false_iff_ne]; omega
      have g93:((T[n].toNat:Int) == 93)=false:=by rw[beq_eq_false_iff_ne]; omega
      have g125:((T[n].toNat:Int) == 125)=false:=by rw[beq_eq_false_iff_ne]; omega
      clear hbn h3 h4 h5
      have H2:=hide h6
      clear h6
      clear h1
      go_wp2
      go_roundw
      case rel=>exact⟨n,op - 1,g,by go_num,by go_num,hnT,by omega,uh H2,uh HB⟩
      case measure=>simp[intOf]; omega
    by_cases c125:bt T j=125
    ·have hop1:1≤op:=by rw[c125] at ho; cases op with
      | zero=>cases ho
      | succ n=>omega
     obtain rfl:op - 1=o:=by rw[c125] at ho; cases op with
      | zero=>cases ho
      | succ n=>injection ho
     rw[hb] at c125
     have f34:((T[j].toNat:Int) == 34)=false:=by rw[beq_eq_false_iff_ne]; omega
     have f91:((T[j].toNat:Int) == 91)=false:=by rw[beq_eq_false_iff_ne]; omega
     have f123:((T[j].toNat:Int) == 123)=false:=by rw[beq_eq_false_iff_ne]; omega
     have f93:((T[j].toNat:Int) == 93)=false:=by rw[beq_eq_false_iff_ne]; omega
     have f125:((T[j].toNat:Int) == 125)=true:=by rw[beq_iff_eq]; omega
     clear hb c125 HST ho c34 c91 c123 c93
     rcases ht with ⟨h1,h2⟩ | ⟨h1,h2,h3⟩ | ⟨h1,h2,h3,h4⟩ | ⟨h1,h2,h3,h4⟩ | ⟨h1,h2,h3,h4⟩ | ⟨h1,h2,h3,h4,h5,h6⟩
     ·have tz:(((op:Int) - 1) == 0)=false:=by rw[beq_eq_false_iff_ne]; omega
      have H2:=hide h2
      clear h1 h2
      go_wp2
      go_roundw
      case rel=>exact⟨n,op - 1,g,by go_num,by go_num,hnT,by omega,uh H2,uh HB⟩
      case measure=>simp[intOf]; omega
     ·have tz:(((op:Int) - 1) == 0)=true:=by rw[beq_iff_eq]; omega
      have te:((n:Int) == (T.size:Int))=true:=by rw[beq_iff_eq]; omega
      have HK:=hide h3
      clear h3
      clear h1 h2
      go_wp2
      go_ret
      exact⟨by rw[← uh HK]; first | rfl | go_num,uh HB⟩
     ·have tz:(((op:Int) - 1) == 0)=true:=by rw[beq_iff_eq]; omega
      have te:((n:Int) == (T.size:Int))=false:=by rw[beq_eq_false_iff_ne]; omega
      have hlN:(n:Int) < (T.size:Int):=by omega
      have hbn:=bt_at T n h2
      rw[hbn] at h3
      have g44:((T[n].toNat:Int) == 44)=true:=by rw[beq_iff_eq]; omega
      have g93:((T[n].toNat:Int) == 93)=false:=by rw[beq_eq_false_iff_ne]; omega
      have g125:((T[n].toNat:Int) == 125)=false:=by rw[beq_eq_false_iff_ne]; omega
      clear hbn h3
      have HK:=hide h4
      clear h4
      clear h1
      go_wp2
      go_ret
      exact⟨by rw[← uh HK]; first | rfl | go_num,uh HB⟩
     ·have tz:(((op:Int) - 1) == 0)=true:=by rw[beq_iff_eq]; omega
      have te:((n:Int) == (T.size:Int))=false:=by rw[beq_eq_false_iff_ne]; omega
      have hlN:(n:Int) < (T.size:Int):=by omega
      have hbn:=bt_at T n h2
      rw[hbn] at h3
      have g44:((T[n].toNat:Int) == 44)=false:=by rw[beq_eq_false_iff_ne]; omega
      have g93:((T[n].toNat:Int) == 93)=true:=by rw[beq_iff_eq]; omega
      have g125:((T[n].toNat:Int) == 125)=false:=by rw[beq_eq_false_iff_ne]; omega
      clear hbn h3
      have HK:=hide h4
      clear h4
      clear h1
      go_wp2
      go_ret
      exact⟨by rw[← uh HK]; first | rfl | go_num,uh HB⟩
     ·have tz:(((op:Int) - 1) == 0)=true:=by rw[beq_iff_eq]; omega
      have te:((n:Int) == (T.size:Int))=false:=by rw[beq_eq_false_iff_ne]; omega
      have hlN:(n:Int) < (T.size:Int):=by omega
      have hbn:=bt_at T n h2
      rw[hbn] at h3
      have g44:((T[n].toNat:Int) == 44)=false:=by rw[beq_eq_false_iff_ne]; omega
      have g93:((T[n].toNat:Int) == 93)=false:=by rw[beq_eq_false_iff_ne]; omega
      have g125:((T[n].toNat:Int) == 125)=true:=by rw[beq_iff_eq]; omega
      clear hbn h3
      have HK:=hide h4
      clear h4
      clear h1
      go_wp2
      go_ret
      exact⟨by rw[← uh HK]; first | rfl | go_num,uh HB⟩
     ·have tz:(((op:Int) - 1) == 0)=true:=by rw[beq_iff_eq]; omega
      have te:((n:Int) == (T.size:Int))=false:=by rw[beq_eq_false_iff_ne]; omega
      have hlN:(n:Int) < (T.size:Int):=by omega
      have hbn:=bt_at T n h2
      rw[hbn] at h3 h4 h5
      have g44:((T[n].toNat:Int) == 44)=false:=by rw[beq_eq_false_iff_ne]; omega
      have g93:((T[n].toNat:Int) == 93)=false:=by rw[beq_eq_false_iff_ne]; omega
      have g125:((T[n].toNat:Int) == 125)=false:=by rw[beq_eq_false_iff_ne]; omega
      clear hbn h3 h4 h5
      have H2:=hide h6
      clear h6
      clear h1
      go_wp2
      go_roundw
      case rel=>exact⟨n,op - 1,g,by go_num,by go_num,hnT,by omega,uh H2,uh HB⟩
      case measure=>simp[intOf]; omega
    obtain rfl:op=o:=by
     unfold op1 isOp isCl at ho
     simp[c91,c123,c93,c125] at ho
     exact ho
    rw[hb] at c34 c91 c123 c93 c125
    have f34:((T[j].toNat:Int) == 34)=false:=by rw[beq_eq_false_iff_ne]; omega
    have f91:((T[j].toNat:Int) == 91)=false:=by rw[beq_eq_false_iff_ne]; omega
    have f123:((T[j].toNat:Int) == 123)=false:=by rw[beq_eq_false_iff_ne]; omega
    have f93:((T[j].toNat:Int) == 93)=false:=by rw[beq_eq_false_iff_ne]; omega
    have f125:((T[j].toNat:Int) == 125)=false:=by rw[beq_eq_false_iff_ne]; omega
    clear hb c34 c91 c123 c93 c125 HST ho
    rcases ht with ⟨h1,h2⟩ | ⟨h1,h2,h3⟩ | ⟨h1,h2,h3,h4⟩ | ⟨h1,h2,h3,h4⟩ | ⟨h1,h2,h3,h4⟩ | ⟨h1,h2,h3,h4,h5,h6⟩
    ·have tz:((op:Int) == 0)=false:=by rw[beq_eq_false_iff_ne]; omega
     have H2:=hide h2
     clear h1 h2
     go_wp2
     go_roundw
     case rel=>exact⟨n,op,g,by go_num,by go_num,hnT,by omega,uh H2,uh HB⟩
     case measure=>simp[intOf]; omega
    ·have tz:((op:Int) == 0)=true:=by rw[beq_iff_eq]; omega
     have te:((n:Int) == (T.size:Int))=true:=by rw[beq_iff_eq]; omega
     have HK:=hide h3
     clear h3
     clear h1 h2
     go_wp2
     go_ret
     exact⟨by rw[← uh HK]; first | rfl | go_num,uh HB⟩
    ·have tz:((op:Int) == 0)=true:=by rw[beq_iff_eq]; omega
     have te:((n:Int) == (T.size:Int))=false:=by rw[beq_eq_false_iff_ne]; omega
     have hlN:(n:Int) < (T.size:Int):=by omega
     have hbn:=bt_at T n h2
     rw[hbn] at h3
     have g44:((T[n].toNat:Int) == 44)=true:=by rw[beq_iff_eq]; omega
     have g93:((T[n].toNat:Int) == 93)=false:=by rw[beq_eq_false_iff_ne]; omega
     have g125:((T[n].toNat:Int) == 125)=false:=by rw[beq_eq_false_iff_ne]; omega
     clear hbn h3
     have HK:=hide h4
     clear h4
     clear h1
     go_wp2
     go_ret
     exact⟨by rw[← uh HK]; first | rfl | go_num,uh HB⟩
    ·have tz:((op:Int) == 0)=true:=by rw[beq_iff_eq]; omega
     have te:((n:Int) == (T.size:Int))=false:=by rw[beq_eq_false_iff_ne]; omega
     have hlN:(n:Int) < (T.size:Int):=by omega
     have hbn:=bt_at T n h2
     rw[hbn] at h3
     have g44:((T[n].toNat:Int) == 44)=false:=by rw[beq_eq_false_iff_ne]; omega
     have g93:((T[n].toNat:Int) == 93)=true:=by rw[beq_iff_eq]; omega
     have g125:((T[n].toNat:Int) == 125)=false:=by rw[beq_eq_false_iff_ne]; omega
     clear hbn h3
     have HK:=hide h4
     clear h4
     clear h1
     go_wp2
     go_ret
     exact⟨by rw[← uh HK]; first | rfl | go_num,uh HB⟩
    ·have tz:((op:Int) == 0)=true:=by rw[beq_iff_eq]; omega
     have te:((n:Int) == (T.size:Int))=false:=by rw[beq_eq_false_iff_ne]; omega
     have hlN:(n:Int) < (T.size:Int):=by omega
     have hbn:=bt_at T n h2
     rw[hbn] at h3
     have g44:((T[n].toNat:Int) == 44)=false:=by rw[beq_eq_false_iff_ne]; omega
     have g93:((T[n].toNat:Int) == 93)=false:=by rw[beq_eq_false_iff_ne]; omega
     have g125:((T[n].toNat:Int) == 125)=true:=by rw[beq_iff_eq]; omega
     clear hbn h3
     have HK:=hide h4
     clear h4
     clear h1
     go_wp2
     go_ret
     exact⟨by rw[← uh HK]; first | rfl | go_num,uh HB⟩
    ·have tz:((op:Int) == 0)=true:=by rw[beq_iff_eq]; omega
     have te:((n:Int) == (T.size:Int))=false:=by rw[beq_eq_false_iff_ne]; omega
     have hlN:(n:Int) < (T.size:Int):=by omega
     have hbn:=bt_at T n h2
     rw[hbn] at h3 h4 h5
     have g44:((T[n].toNat:Int) == 44)=false:=by rw[beq_eq_false_iff_ne]; omega
     have g93:((T[n].toNat:Int) == 93)=false:=by rw[beq_eq_false_iff_ne]; omega
     have g125:((T[n].toNat:Int) == 125)=false:=by rw[beq_eq_false_iff_ne]; omega
     clear hbn h3 h4 h5
     have H2:=hide h6
     clear h6
     clear h1
     go_wp2
     go_roundw
     case rel=>exact⟨n,op,g,by go_num,by go_num,hnT,by omega,uh H2,uh HB⟩
     case measure=>simp[intOf]; omega
  ·rw[if_neg hl] at hg; cases hg
abbrev Part:=List UInt8×List UInt8
def partC (p:Part) : List Value:=[.string (strOf p.1),.string (strOf p.2)]
def PR (w:World) (B:Nat) (v:Value) (ps:List Part) : Prop:=w.ownsRow B 63 2 v ps.length (ps.flatMap partC)
theorem part_at (ps:List Part) (j:Nat) (h:j < ps.length) : (ps.flatMap partC)[j*2]?=some (.string (strOf ps[j].1))∧(ps.flatMap partC)[j*2+1]?=some (.string (strOf ps[j].2)):=by
 induction ps generalizing j with
 | nil=>simp at h
 | cons p r ih=>
  cases j with
  | zero=>exact⟨rfl,rfl⟩
  | succ j=>
   have:=ih j (by simpa using h)
   rw[List.flatMap_cons,show (j+1)*2=j*2+2 from by omega]
   exact this
theorem PR.cells {w:World} {B:Nat} {v:Value} {ps:List Part} (h:PR w B v ps) (j:Nat) (hj:j < ps.length) :
  ∃ g cap,v = .slice (some ⟨g,0,none⟩) ps.length cap∧B≤g∧g < w.heap.size∧w.cell? ⟨g,j*2,none⟩=some (.string (strOf ps[j].1))∧w.cell? ⟨g,j*2+1,none⟩=some (.string (strOf ps[j].2)):=by
 obtain⟨hl,h0 | ⟨g,cap,cur,hv,hB,hg,hn,hc,hsz,ht⟩⟩:=h
 ·omega
 ·have hc0:=part_at ps j hj
  refine⟨g,cap,hv,hB,(Array.getElem?_eq_some_iff.1 hg).1,?_,?_⟩
  ·rw[Lib.cell_of_heap hg,← Array.getElem?_toList,← hc0.1,← ht,List.getElem?_take_of_lt (by omega)]
  ·rw[Lib.cell_of_heap hg,← Array.getElem?_toList,← hc0.2,← ht,List.getElem?_take_of_lt (by omega)]
theorem PR.below {w w':World} {B:Nat} {v:Value} {ps:List Part} (h:PR w B v ps) (hb:Below w.heap.size w w') : PR w' B v ps:=own_below h hb
def hasK (ps:List Part) (key:List UInt8) : Bool:=(ps.map (·.1)).contains key
theorem str_eq (a b:List UInt8) : ((strOf a).toList == (strOf b).toList)=(a == b):=by
 rw[ByteArray.toList_eq,ByteArray.toList_eq,strOf_toList,strOf_toList]
theorem find_walk (B:Nat) (v:Value) (ps:List Part) (key:List UInt8) (w:World) (h:PR w B v ps) (hn:ps.length≤40000000) :
  Calls Tryz.prog 81 #[v,.string (strOf key)] w fun e w'=>∃ z:Int,e = .returned (.int .i64 z)∧decide ((0:Int)≤z)=hasK ps key∧w=w':=by
 obtain⟨x,len,cap,rfl,hlen⟩ : ∃ x len cap,v = .slice x len cap∧len=ps.length:=by
  rcases h.2 with ⟨hv,h0⟩ | ⟨g,cap,cur,hv,_⟩
  ·exact⟨_,_,_,hv,h0.symm⟩
  ·exact⟨_,_,_,hv,rfl⟩
 subst hlen
 have HP:=hide h
 clear h
 go_enter Tryz.func81,Tryz.ntmps81
 go_wp2_with fail
 go_loopw [5] (fun k wr=>w=wr∧∃ j:Nat,k = .int .i64 (j:Int)∧j≤ps.length∧((ps.take j).map (·.1)).contains key=false) (fun k _=>ps.length - (intOf k).toNat)
 case atStart=>exact⟨rfl,0,rfl,Nat.zero_le _,by simp⟩
 case round=>
  obtain⟨rfl,j,rfl,hj,hno⟩:=hrel
  have HNO:=hide hno
  clear hno
  by_cases hin:j < ps.length
  ·have t1:((j:Int) < (ps.length:Int))=True:=eq_true (by omega)
   obtain⟨g,cap',he,hB,hgl,c0,c1⟩:=(uh HP).cells j hin
   injection he with he1 he2 he3
   subst he1; subst he3
   have heq:=str_eq ps[j].1 key
   by_cases hk:ps[j].1=key
   ·have t2:(ps[j].1 == key)=true:=by rw[beq_iff_eq]; exact hk
    have HY:Hid (hasK ps key=true):=by
     show _=_
     unfold hasK
     rw[List.contains_iff_mem]
     exact List.mem_map.2 ⟨ps[j],List.getElem_mem _,hk⟩
    rw[t2] at heq
    clear hk t2
    go_wp2
    go_ret
    exact⟨_,rfl,by rw[uh HY]; exact decide_eq_true (by omega),rfl⟩
   ·have t2:(ps[j].1 == key)=false:=by rw[beq_eq_false_iff_ne]; exact hk
    have HX:Hid (((ps.take (j+1)).map (·.1)).contains key=false):=by
     show _=_
     have:=uh HNO
     rw[List.take_succ_eq_append_getElem hin,List.map_append,List.contains_append,this]
     simp; exact fun e=>hk e.symm
    rw[t2] at heq
    clear hk t2
    go_wp2
    go_roundw
    case rel=>exact⟨trivial,j+1,by go_num,by omega,uh HX⟩
    case measure=>simp[intOf]; omega
  ·have t1:((j:Int) < (ps.length:Int))=False:=eq_false (by omega)
   have HY:Hid (hasK ps key=false):=by
    show _=_
    unfold hasK
    have:=uh HNO
    rwa [List.take_of_length_le (by omega)] at this
   go_wp2
   go_ret
   exact⟨_,rfl,by rw[uh HY]; rfl,rfl⟩
theorem arr_walk (s:ByteArray) (i:Nat) (w:World) (hs:s.size≤1048576) (hi:i < s.size) (h91:bt s i=91)
  (IH:∀ (j:Nat) (w:World),i < j→j≤s.size→Calls Tryz.prog 56 #[.string s,.int .i64 j] w (GP w (val s j))) :
  Calls Tryz.prog 108 #[.string s,.int .i64 i] w (GP w (val s i)):=by
 have HSM:=hide (small1 s hs)
 have g0:=sk_ge s (i+1)
 have g1:=(sk_le (s:=s) (i:=i+1) (by omega)).2
 have HV:=hide (val_arr h91)
 have HIH:=hide IH
 clear IH
 generalize hk0:sk s (i+1)=k0 at *
 go_enter Tryz.func108,Tryz.ntmps108
 go_wp2_with fail
 refine ((uh HSM).1 _ (i+1) _ (by omega)).mono ?_
 rintro e w1 ⟨rfl,rfl⟩
 rw[hk0]
 go_wp2_with fail
 refine ((uh HSM).2 93 k0 _ (by decide)).mono ?_
 rintro e w1 ⟨rfl,rfl⟩
 clear hk0
 by_cases h93:bt s k0=93
 ·rw[decide_eq_true h93]
  have HR:Hid (val s i=some (.arr .nil,k0+1)):=by show _=_; rw[uh HV,if_pos h93]
  clear h93 HV
  go_wp2
  go_returns
  rw[uh HR]
  exact⟨(alloc_below w _).trans ((Below.refl _ _).alloc (by simp) _),rfl⟩
 ·rw[decide_eq_false h93]
  have HR:Hid (val s i=(elems s k0).map fun q=>(.arr q.1,q.2)):=by show _=_; rw[uh HV,if_neg h93]
  clear h93 HV h91
  go_wp2_with fail
  go_loopg [1] (s.size+1 - k0) (fun g k wr=>∃ (j:Nat) (acc:JL),g=s.size+1 - j∧k = .int .i64 (j:Int)∧k0≤j∧j≤s.size∧Got w.heap.size ⟨#[]⟩ 0 false false false wr∧Got (w.heap.size+1) (strOf (91 :: preA acc)) 0 true (bigL acc) (twL acc) wr∧Below w.heap.size w wr∧(preA acc).length≤31*j∧elems s k0=(elems s j).map fun q=>(acc.app q.1,q.2))
  case atStart=>
   refine⟨k0,.nil,rfl,rfl,Nat.le_refl _,g1,?_,?_,(alloc_below w _).trans ((Below.refl _ _).alloc (by simp) _),by simp[preA],by simp[JL.app]⟩
   ·show (World.alloc _ _).heap[_]?=_
    rw[Lib.alloc_old _ _ _ (by simp)]; exact heap_alloc_new w _
   ·have:=heap_alloc_new (w.alloc (gotB ⟨#[]⟩ 0 false false false)) (gotB (strOf [91]) 0 true false false)
    rw[show (w.alloc (gotB ⟨#[]⟩ 0 false false false)).heap.size=w.heap.size+1 from by simp] at this
    exact this
  case round=>
   obtain⟨j,acc,hg,rfl,hj1,hj2,hr,hgot,hb,hpl,hst⟩:=hrel
   have HST:=hide hst
   have HG:=hide hgot
   have HRR:=hide hr
   have HB:=hide hb
   have hwsz:=hb.size
   have hgl:=hgot.lt
   clear hst hgot hr hb
   have HC:=hide (uh HIH j wr (by omega) (by omega))
   cases hv:val s j with
   | none=>
    have HN:Hid (val s i=none):=by
     show _=_
     rw[uh HR,uh HST,elems_eq,hv]; rfl
    rw[hv] at HC
    clear hv
    go_wp2_with fail
    refine (uh HC).mono ?_
    rintro e w2 ⟨b2,t,n,bb,tw,rfl⟩
    have R2:=(uh HRR).below b2
    have B2:=below_next (uh HB) b2
    have R3:=R2.alloc (gotB t n false bb tw)
    have B3:Below w.heap.size w (w2.alloc (gotB t n false bb tw)):=B2.alloc (by have:=b2.size; omega) _
    have c0:=R3.c0
    have c1:=R3.c1
    have c2:=R3.c2
    have c3:=R3.c3
    have c4:=R3.c4
    have f0:=R3.fz 0
    have f1:=R3.fz 1
    have f2:=R3.fz 2
    have f3:=R3.fz 3
    have f4:=R3.fz 4
    have RX:=hide (R3.put ⟨#[]⟩ 0 0 rfl false false false)
    have BX:=hide (below_put B3 (Nat.le_refl _) (.string ⟨#[]⟩) (.int .i64 0) (.bool false) (.bool false) (.bool false))
    clear HC HRR R2 R3 B2 B3
    simp only[gotV]
    go_wp2
    try simp only[Exit.inBlock,Exit.then]
    refine bodyPost_ret (got_ret rfl rfl (uh RX)) rfl ?_
    exact GP.bad (uh HN) (uh BX)
   | some q=>
    obtain⟨v,n⟩:=q
    have hvo:=val_ok hv
    have hvl:=val_len hv
    have HPL:Hid ((preA (acc.app (.cons v .nil))).length≤31*n):=by
     show _≤_
     rw[preA_snoc]; simp only[List.length_append,List.length_cons,List.length_nil]; omega
    have z1:(strOf (91 :: preA acc)).size≤40000000:=by rw[strOf_size]; simp only[List.length_cons]; omega
    have z2:(strOf (ct v)).size≤40000000:=by rw[strOf_size]; omega
    have z3:(strOf (91 :: (preA acc++ct v))).size≤80000000:=by rw[strOf_size]; simp only[List.length_cons,List.length_append]; omega
    have hn1:=sk_ge s n
    have hn2:=(sk_le hvo.2).2
    have HEQ:Hid (elems s k0=(if bt s (sk s n)=93 then some (JL.cons v .nil,sk s n+1) else if bt s (sk s n)=44 then (elems s (sk s (sk s n+1))).map fun r=>(JL.cons v r.1,r.2) else none).map fun q=>(acc.app q.1,q.2)):=by
     show _=_
     rw[uh HST,elems_eq,hv]; rfl
    rw[hv] at HC
    clear hv HST
    have hcat1:strOf (91 :: preA acc)++strOf (ct v)=strOf (91 :: (preA acc++ct v)):=strOf_app _ _
    have HFI:Hid (strOf (91 :: (preA acc++ct v))++⟨#[93]⟩=strOf (ct (.arr (acc.app (.cons v .nil))))):=by
     show _=_
     rw[show (⟨#[93]⟩ : ByteArray)=strOf [93] from rfl,strOf_app,ct,mkA,← joinC_pre]; simp
    have HCO:Hid (strOf (91 :: (preA acc++ct v))++⟨#[44]⟩=strOf (91 :: preA (acc.app (.cons v .nil)))):=by
     show _=_
     rw[show (⟨#[44]⟩ : ByteArray)=strOf [44] from rfl,strOf_app,preA_snoc]; simp
    have HBB:Hid (bigL (acc.app (.cons v .nil))=(bigL acc || bigV v)):=by show _=_; rw[bigL_app]; simp[bigL]
    have HTT:Hid (twL (acc.app (.cons v .nil))=(twL acc || twV v)):=by show _=_; rw[twL_app]; simp[twL]
    go_wp2_with fail
    refine (uh HC).mono ?_
    rintro e w2 ⟨b2,rfl⟩
    simp only[gotV]
    have R3:=hide (((uh HRR).below b2).alloc (gotB (strOf (ct v)) n true (bigV v) (twV v)))
    have G3:=((uh HG).below b2).alloc (gotB (strOf (ct v)) n true (bigV v) (twV v))
    have V3:Got w2.heap.size (strOf (ct v)) n true (bigV v) (twV v) (w2.alloc (gotB (strOf (ct v)) n true (bigV v) (twV v))):=heap_alloc_new w2 _
    have B3:Hid (Below w.heap.size w (w2.alloc (gotB (strOf (ct v)) n true (bigV v) (twV v)))):=(below_next (uh HB) b2).alloc (by have:=b2.size; omega) _
    have hw2:=b2.size
    clear HC HRR HG HB b2
    simp only[gotB] at G3 V3 R3 B3
    generalize bigL acc=ba at *
    generalize twL acc=ta at *
    generalize bigV v=bv at *
    generalize twV v=tv at *
    generalize strOf (91 :: preA acc)=sa at *
    generalize strOf (91 :: (preA acc++ct v))=sb at *
    generalize strOf (ct v)=sc at *
    generalize hw3:w2.alloc (.cells #[.string sc,.int .i64 (n:Int),.bool true,.bool bv,.bool tv] 96 (0,0))=w3 at *
    have hvg:w2.heap.size≠w.heap.size+1:=by omega
    have ok3:=V3.c2
    have go0:=G3.c0
    have gf0:=G3.fz 0
    have gf3:=G3.fz 3
    have gf4:=G3.fz 4
    have v0:=V3.c0
    have G4:=G3.set0 sb
    have V4:=V3.other (p:=⟨w.heap.size+1,0,none⟩) hvg (.string sb)
    have G5:=G4.set3 (ba || bv)
    have V5:=V4.other (p:=⟨w.heap.size+1,3,none⟩) hvg (.bool (ba || bv))
    have G6:=G5.set4 (ta || tv)
    have V6:=V5.other (p:=⟨w.heap.size+1,4,none⟩) hvg (.bool (ta || tv))
    have g43:=G4.c3
    have v43:=V4.c3
    have f43:=G4.fz 3
    have g54:=G5.c4
    have v54:=V5.c4
    have f54:=G5.fz 4
    have v61:=V6.c1
    have HG6:=hide G6
    clear G3 V3 G4 V4 G5 V5 G6 V6
    generalize hbb:(ba || bv)=bb at *
    generalize htt:(ta || tv)=tt at *
    have hb':ba=true∧bb=true∨ba=false∧bv=bb:=or_cases _ _ _ hbb
    have ht':ta=true∧tt=true∨ta=false∧tv=tt:=or_cases _ _ _ htt
    clear hbb htt hpl hvl
    rcases hb' with ⟨rfl,rfl⟩ | ⟨rfl,rfl⟩ <;> rcases ht' with ⟨rfl,rfl⟩ | ⟨rfl,rfl⟩
    all_goals
     go_wp2_with fail
     refine ((uh HSM).1 _ n _ rfl).mono ?_
     rintro e w6 ⟨rfl,hw6⟩
     have G6:=hw6 ▸ uh HG6
     have R6:Got w.heap.size ⟨#[]⟩ 0 false false false w6:=hw6 ▸ (((uh R3).other (p:=⟨w.heap.size+1,0,none⟩) (by show _≠w.heap.size+1; omega) _).other (p:=⟨w.heap.size+1,3,none⟩) (by show _≠w.heap.size+1; omega) _).other (p:=⟨w.heap.size+1,4,none⟩) (by show _≠w.heap.size+1; omega) _
     have B6:Below w.heap.size w w6:=hw6 ▸ (((uh B3).setCell (p:=⟨w.heap.size+1,0,none⟩) (by show _≤w.heap.size+1; omega) _).setCell (p:=⟨w.heap.size+1,3,none⟩) (by show _≤w.heap.size+1; omega) _).setCell (p:=⟨w.heap.size+1,4,none⟩) (by show _≤w.heap.size+1; omega) _
     have HB6:=hide B6
     have HR6:=hide R6
     have HG6':=hide G6
     clear ok3 go0 gf0 gf3 gf4 v0 g43 v43 f43 g54 v54 f54 v61 HG6 R3 B3 hw6 hw3 hcat1 G6 R6 B6 hvg hw2 w3
     generalize sk s n=k at *
     go_wp2_with fail
     refine ((uh HSM).2 93 k _ (by decide)).mono ?_
     rintro e w7 ⟨rfl,rfl⟩
     by_cases h93:bt s k=93
     ·rw[decide_eq_true h93]
      have HVV:Hid (val s i=some (.arr (acc.app (.cons v .nil)),k+1)):=by
       show _=_
       rw[uh HR,uh HEQ,if_pos h93]; rfl
      have hfi:=uh HFI
      generalize hsf:strOf (ct (.arr (acc.app (.cons v .nil))))=sf at *
      have HSF:=hide hsf
      have G6:=uh HG6'
      have c0:=G6.c0
      have f0:=G6.fz 0
      have G7:=G6.set0 sf
      have c71:=G7.c1
      have f71:=G7.fz 1
      have G8:=G7.set1 ((k:Int)+1) (k+1) (by omega)
      have R8:=((uh HR6).other (p:=⟨w.heap.size+1,0,none⟩) (by show _≠w.heap.size+1; omega) (.string sf)).other (p:=⟨w.heap.size+1,1,none⟩) (by show _≠w.heap.size+1; omega) (.int .i64 ((k:Int)+1))
      have B8:=((uh HB6).setCell (p:=⟨w.heap.size+1,0,none⟩) (by show _≤w.heap.size+1; omega) (.string sf)).setCell (p:=⟨w.heap.size+1,1,none⟩) (by show _≤w.heap.size+1; omega) (.int .i64 ((k:Int)+1))
      obtain⟨a0,a1',a2,a3,a4⟩:=G8.cells
      have a1:=a1'.trans (show _=some (Value.int .i64 ((k:Int)+1)) by rw[show ((k+1:Nat) : Int)=(k:Int)+1 from by omega])
      obtain⟨r0,r1,r2,r3,r4⟩:=R8.cells
      obtain⟨q0,q1,q2,q3,q4⟩:=R8.fzs
      have RX:=hide (R8.copyTo G8 ((k:Int)+1) (by omega))
      have BX:=hide (fun a b c d e=>below_put B8 (Nat.le_refl _) a b c d e)
      clear a1' G6 G7 G8 R8 B8 HG6' HR6 HB6 HFI hsf HCO HEQ HR h93
      go_wp2
      try simp only[Exit.inBlock,Exit.then]
      refine bodyPost_ret (got_ret rfl rfl (uh RX)) rfl ?_
      rw[uh HVV]
      refine⟨uh BX _ _ _ _ _,?_⟩
      show _=Ending.returned (gotV (strOf (ct (.arr (acc.app (.cons v .nil))))) (k+1) true (bigL (acc.app (.cons v .nil))) (twL (acc.app (.cons v .nil))))
      rw[uh HSF,uh HBB,uh HTT]
     ·rw[decide_eq_false h93]
      go_wp2_with fail
      refine ((uh HSM).2 44 k _ (by decide)).mono ?_
      rintro e w8 ⟨rfl,rfl⟩
      by_cases h44:bt s k=44
      ·rw[decide_eq_true h44]
       have hkl:k < s.size:=bt_in (by omega)
       have HST2:Hid (elems s k0=(elems s (sk s (k+1))).map fun q=>((acc.app (.cons v .nil)).app q.1,q.2)):=by
        show _=_
        rw[uh HEQ,if_neg h93,if_pos h44,Option.map_map]
        congr 1
        funext q
        simp[JL.app_assoc,JL.app]
       have hco:=uh HCO
       generalize hsf:strOf (91 :: preA (acc.app (.cons v .nil)))=sf at *
       have HSF:=hide hsf
       have G6:=uh HG6'
       have c0:=G6.c0
       have f0:=G6.fz 0
       have G7:=hide (G6.set0 sf)
       have R7:=hide ((uh HR6).other (p:=⟨w.heap.size+1,0,none⟩) (by show _≠w.heap.size+1; omega) (.string sf))
       have B7:=hide ((uh HB6).setCell (p:=⟨w.heap.size+1,0,none⟩) (by show _≤w.heap.size+1; omega) (.string sf))
       clear G6 HG6' HR6 HB6 HFI hsf HCO HEQ h93 h44
       go_wp2_with fail
       refine ((uh HSM).1 _ (k+1) _ (by omega)).mono ?_
       rintro e w9 ⟨rfl,hw9⟩
       have G9:=hw9 ▸ uh G7
       have R9:=hw9 ▸ uh R7
       have B9:=hw9 ▸ uh B7
       have hs1:=sk_ge s (k+1)
       have hs2:=(sk_le (s:=s) (i:=k+1) (by omega)).2
       clear G7 R7 B7 c0 f0
       go_wp2
       go_roundg (s.size+1 - sk s (k+1))
       case rel=>exact⟨sk s (k+1),acc.app (.cons v .nil),rfl,rfl,by omega,hs2,R9,by rw[uh HSF,uh HBB,uh HTT]; exact G9,B9,by have:=uh HPL; omega,uh HST2⟩
       case measure=>omega
      ·rw[decide_eq_false h44]
       have HN:Hid (val s i=none):=by
        show _=_
        rw[uh HR,uh HEQ,if_neg h93,if_neg h44]; rfl
       have R6:=uh HR6
       obtain⟨r0,r1,r2,r3,r4⟩:=R6.cells
       obtain⟨q0,q1,q2,q3,q4⟩:=R6.fzs
       have RX:=hide (R6.put ⟨#[]⟩ 0 0 rfl false false false)
       have BX:=hide (below_put (uh HB6) (Nat.le_refl _) (.string ⟨#[]⟩) (.int .i64 0) (.bool false) (.bool false) (.bool false))
       clear R6 HG6' HR6 HB6 HFI HCO HEQ h93 h44
       go_wp2
       try simp only[Exit.inBlock,Exit.then]
       refine bodyPost_ret (got_ret rfl rfl (uh RX)) rfl ?_
       exact GP.bad (uh HN) (uh BX)
end Go.Proofs.YtocnekbedcnmgaaGreatDoor
