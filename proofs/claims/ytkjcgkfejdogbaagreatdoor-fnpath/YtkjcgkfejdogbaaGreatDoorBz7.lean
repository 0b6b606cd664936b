import Derived.WalkLawsBesides
import Derived.Deep.QuietTactic
import Derived.BigQuiet
import Derived.Lib.OthersKept
import Derived.Laws.Rows
import Derived.Test.YtkjcgkfejdogbaaGreatDoorBz4
import Derived.Test.YtkjcgkfejdogbaaGreatDoorBz1
import Derived.Deep.LoopGhost
import Derived.Deep.CutRange
import Derived.Lib.QuietBelow
import Derived.Lib.ValidLaws
import Derived.Lib.RuneCount
import Derived.Laws.DeepStrings4
import Derived.Handy
set_option maxRecDepth 100000
set_option maxHeartbeats 8000000
namespace Go.Proofs.YtkjcgkfejdogbaaGreatDoor
open Go.RowKit
structure KB (rb:Nat) (w w':World) : Prop where
 os:w'.os=w.os
 tape:w'.tape=w.tape
 output:w'.output=w.output
 size:w.heap.size≤w'.heap.size
 block:∀ k,k < w.heap.size→k≠rb→w'.heap[k]?=w.heap[k]?
theorem KB.refl (rb:Nat) (w:World) : KB rb w w:=⟨rfl,rfl,rfl,Nat.le_refl _,fun _ _ _=>rfl⟩
theorem KB.trans {rb:Nat} {a b c:World} (h:KB rb a b) (k:KB rb b c) : KB rb a c:=
 ⟨k.os.trans h.os,k.tape.trans h.tape,k.output.trans h.output,Nat.le_trans h.size k.size,fun i hi hn=>(k.block i (Nat.lt_of_lt_of_le hi h.size) hn).trans (h.block i hi hn)⟩
theorem KB.drew {rb:Nat} {a w:World} (h:KB rb a w) : KB rb a w.drew:=⟨h.os,h.tape,h.output,h.size,h.block⟩
theorem KB.drewN {rb:Nat} {a w:World} (h:KB rb a w) (n:Nat) : KB rb a (w.drewN n):=⟨h.os,h.tape,h.output,h.size,h.block⟩
theorem KB.set {rb:Nat} {a w:World} (h:KB rb a w) (j:Nat) (v:Value) : KB rb a (w.setCell ⟨rb,j,none⟩ v):=
 h.trans ⟨rfl,rfl,rfl,by simp[World.setCell],fun k _ hn=>Below.heap_setCell _ _ _ _ hn⟩
theorem KB.of_below {rb:Nat} {w w':World} (h:Below w.heap.size w w') : KB rb w w':=⟨h.os,h.tape,h.output,h.size,fun k hk _=>h.block k hk⟩
theorem KB.below {rb B:Nat} {w w':World} (h:KB rb w w') (hB:B≤rb) (hs:B≤w.heap.size) : Below B w w':=⟨h.os,h.tape,h.output,h.size,fun k hk=>h.block k (by omega) (by omega)⟩
def mis:Ending:=.panicked [{ v:=.iface 99 (.agg #[]),recovered:=false }]
theorem bt_out (s:ByteArray) (i:Nat) (h:s.size≤i) : bt s i=0:=by
 unfold bt
 rw[List.getD_eq_getElem?_getD,List.getElem?_eq_none (by rw[data_len]; exact h)]; rfl
theorem bt_in {s:ByteArray} {i:Nat} (h:bt s i≠0) : i < s.size:=by
 rcases Nat.lt_or_ge i s.size with g | g
 ·exact g
 ·exact absurd (bt_out s i g) h
def skF (s:ByteArray) : Nat→Nat→Nat
 | 0,i=>i
 | f+1,i=>if bt s i=32∨bt s i=9∨bt s i=10∨bt s i=13 then skF s f (i+1) else i
def sk (s:ByteArray) (i:Nat) : Nat:=skF s (s.size - i) i
def hx (b:Nat) : Option Nat:=if 48≤b∧b≤57 then some (b - 48) else if 97≤b∧b≤102 then some (b - 87) else if 65≤b∧b≤70 then some (b - 55) else none
def hexN (s:ByteArray) (i:Nat) : Nat→Option Nat
 | 0=>some 0
 | k+1=>(hexN s i k).bind fun v=>(hx (bt s (i+k))).map fun h=>v*16+h
def smp (b:Nat) : Option Nat:=if b=34 then some 34 else if b=92 then some 92 else if b=47 then some 47 else if b=98 then some 8 else if b=102 then some 12 else if b=110 then some 10 else if b=114 then some 13 else if b=116 then some 9 else none
def unit (s:ByteArray) (i:Nat) : Option Nat:=if bt s i=92∧bt s (i+1)=117 then hexN s (i+2) 4 else none
def escU (s:ByteArray) (i u:Nat) : Option (Nat×Nat):=
 if u < 55296∨57344≤u then some (u,6) else if 56320≤u then none else
 (unit s (i+6)).bind fun v=>if 56320≤v∧v < 57344 then some (65536+(u - 55296)*1024+(v - 56320),12) else none
def escP (s:ByteArray) (i:Nat) : Option (Nat×Nat):=
 match smp (bt s (i+1)) with
 | some v=>some (v,2)
 | none=>(unit s i).bind (escU s i)
def piece (s:ByteArray) (i:Nat) : Option (Nat×Nat):=
 if bt s i=92 then escP s i else if bt s i < 32 then none else if bt s i < 128 then some (bt s i,1)
 else if rl s i=0 then none else some ((Utf8.decode s i).1,rl s i)
def enc (r:Nat) : List UInt8:=Lib.encodeRune (r:Int)
def strF (s:ByteArray) : Nat→Nat→Option (List UInt8×Nat)
 | 0,_=>none
 | f+1,i=>if bt s i=34 then some ([],i+1) else (piece s i).bind fun p=>(strF s f (i+p.2)).map fun q=>(enc p.1++q.1,q.2)
def strR (s:ByteArray) (i:Nat) : Option (List UInt8×Nat):=strF s (s.size+1 - i) i
def strQ (s:ByteArray) (i:Nat) : Option (List UInt8×Nat):=if bt s i=34 then strR s (i+1) else none
mutual
inductive JV where
 | nul | tt | ff
 | num (l:List UInt8)
 | str (l:List UInt8)
 | arr (l:JL)
 | obj (m:JM)
inductive JL where
 | nil
 | cons (v:JV) (r:JL)
inductive JM where
 | nil
 | cons (k:List UInt8) (v:JV) (r:JM)
end
def dgF (s:ByteArray) : Nat→Nat→Nat
 | 0,i=>i
 | f+1,i=>if isDg (bt s i)=true then dgF s f (i+1) else i
def dg (s:ByteArray) (i:Nat) : Nat:=dgF s (s.size - i) i
def cutB (s:ByteArray) (i j:Nat) : List UInt8:=(s.data.toList.drop i).take (j - i)
def nmD (s:ByteArray) (i:Nat) : Nat:=if bt s i=45 then i+1 else i
def nmE (s:ByteArray) (i:Nat) : Nat:=if bt s (nmD s i)=48 then nmD s i+1 else dg s (nmD s i)
def norm0 (l:List UInt8) : List UInt8:=if l=[45,48] then [48] else l
def nm (s:ByteArray) (i:Nat) : Option (List UInt8×Nat):=if isDg (bt s (nmD s i))=true then some (norm0 (cutB s i (nmE s i)),nmE s i) else none
def wNull (s:ByteArray) (i:Nat) : Bool:=bt s i == 110 && bt s (i+1) == 117 && bt s (i+2) == 108 && bt s (i+3) == 108
def wTrue (s:ByteArray) (i:Nat) : Bool:=bt s i == 116 && bt s (i+1) == 114 && bt s (i+2) == 117 && bt s (i+3) == 101
def wFalse (s:ByteArray) (i:Nat) : Bool:=bt s i == 102 && bt s (i+1) == 97 && bt s (i+2) == 108 && bt s (i+3) == 115 && bt s (i+4) == 101
mutual
def pv (s:ByteArray) : Nat→Nat→Option (JV×Nat)
 | 0,_=>none
 | f+1,i=>
  if bt s i=91 then (if bt s (sk s (i+1))=93 then some (.arr .nil,sk s (i+1)+1) else (pa s f (sk s (i+1))).map fun q=>(.arr q.1,q.2))
  else if bt s i=123 then (if bt s (sk s (i+1))=125 then some (.obj .nil,sk s (i+1)+1) else (po s f (sk s (i+1))).map fun q=>(.obj q.1,q.2))
  else if bt s i=34 then (strQ s i).map fun q=>(.str q.1,q.2)
  else if wNull s i=true then some (.nul,i+4)
  else if wTrue s i=true then some (.tt,i+4)
  else if wFalse s i=true then some (.ff,i+5)
  else (nm s i).map fun q=>(.num q.1,q.2)
def pa (s:ByteArray) : Nat→Nat→Option (JL×Nat)
 | 0,_=>none
 | f+1,i=>(pv s f i).bind fun q=>
  if bt s (sk s q.2)=93 then some (.cons q.1 .nil,sk s q.2+1)
  else if bt s (sk s q.2)=44 then (pa s f (sk s (sk s q.2+1))).map fun r=>(.cons q.1 r.1,r.2)
  else none
def po (s:ByteArray) : Nat→Nat→Option (JM×Nat)
 | 0,_=>none
 | f+1,i=>(strQ s i).bind fun k=>
  if bt s (sk s k.2)=58 then (pv s f (sk s (sk s k.2+1))).bind fun q=>
   if bt s (sk s q.2)=125 then some (.cons k.1 q.1 .nil,sk s q.2+1)
   else if bt s (sk s q.2)=44 then (po s f (sk s (sk s q.2+1))).map fun r=>(.cons k.1 q.1 r.1,r.2)
   else none
  else none
end
def val (s:ByteArray) (i:Nat) : Option (JV×Nat):=pv s (2*(s.size - i)+1) i
def insR (p:List UInt8×List UInt8) : List (List UInt8×List UInt8)→List (List UInt8×List UInt8)
 | []=>[p]
 | q :: r=>if p.1 < q.1 then q :: insR p r else p :: q :: r
def isort (l:List (List UInt8×List UInt8)) : List (List UInt8×List UInt8):=(l.foldl (fun acc p=>insR p acc) []).reverse
def memT (p:List UInt8×List UInt8) : List UInt8:=quoted p.1++58 :: p.2
def joinT:List (List UInt8)→List UInt8
 | []=>[]
 | t :: r=>44 :: (t++joinT r)
def joinC:List (List UInt8)→List UInt8
 | []=>[]
 | t :: r=>t++joinT r
def mkO (l:List (List UInt8×List UInt8)) : List UInt8:=123 :: (joinC (l.map memT)++[125])
def mkA (l:List (List UInt8)) : List UInt8:=91 :: (joinC l++[93])
def lim0:List UInt8:=[57,50,50,51,51,55,50,48,51,54,56,53,52,55,55,53,56,48,55]
def lim1:List UInt8:=[57,50,50,51,51,55,50,48,51,54,56,53,52,55,55,53,56,48,56]
def over (d lim:List UInt8) : Bool:=if d.length≠19 then decide (19 < d.length) else (!Op.bytesLess d lim && !(d == lim))
def tooBig:List UInt8→Bool
 | []=>false
 | c :: r=>if c=45 then over r lim1 else over (c :: r) lim0
mutual
def ct:JV→List UInt8
 | .nul=>[110,117,108,108]
 | .tt=>[116,114,117,101]
 | .ff=>[102,97,108,115,101]
 | .num l=>l
 | .str l=>quoted l
 | .arr l=>mkA (ctL l)
 | .obj m=>mkO (isort (ctM m))
def ctL:JL→List (List UInt8)
 | .nil=>[]
 | .cons v r=>ct v :: ctL r
def ctM:JM→List (List UInt8×List UInt8)
 | .nil=>[]
 | .cons k v r=>(k,ct v) :: ctM r
end
mutual
def bigV:JV→Bool
 | .nul=>false
 | .tt=>false
 | .ff=>false
 | .num l=>tooBig l
 | .str _=>false
 | .arr l=>bigL l
 | .obj m=>bigM m
def bigL:JL→Bool
 | .nil=>false
 | .cons v r=>bigV v || bigL r
def bigM:JM→Bool
 | .nil=>false
 | .cons _ v r=>bigV v || bigM r
end
mutual
def twV:JV→Bool
 | .nul=>false
 | .tt=>false
 | .ff=>false
 | .num _=>false
 | .str _=>false
 | .arr l=>twL l
 | .obj m=>twM [] m
def twL:JL→Bool
 | .nil=>false
 | .cons v r=>twV v || twL r
def twM:List (List UInt8)→JM→Bool
 | _,.nil=>false
 | ks,.cons k v r=>(twV v || ks.contains k) || twM (ks++[k]) r
end
def JL.app:JL→JL→JL
 | .nil,b=>b
 | .cons v r,b=>.cons v (r.app b)
def JM.app:JM→JM→JM
 | .nil,b=>b
 | .cons k v r,b=>.cons k v (r.app b)
def gotV (t:ByteArray) (n:Nat) (ok b tw:Bool) : Value:=.agg #[.string t,.int .i64 (n:Int),.bool ok,.bool b,.bool tw]
def GP (w:World) (o:Option (JV×Nat)) (e:Ending) (w':World) : Prop:=
 Below w.heap.size w w'∧o.elim (∃ (t:ByteArray) (n:Nat) (b tw:Bool),e = .returned (gotV t n false b tw)) fun q=>e = .returned (gotV (strOf (ct q.1)) q.2 true (bigV q.1) (twV q.1))
theorem GP.bad {w w':World} {o:Option (JV×Nat)} (h:o=none) (b:Below w.heap.size w w') : GP w o (.returned (.agg #[.string ⟨#[]⟩,.int .i64 0,.bool false,.bool false,.bool false])) w':=by
 subst h; exact⟨b,_,0,_,_,rfl⟩
theorem strOf_app (a b:List UInt8) : strOf a++strOf b=strOf (a++b):=by
 apply Go.WideShapes.bytes_inj
 rw[ByteArray.data_append,Array.toList_append,strOf_toList,strOf_toList,strOf_toList]
def decF:Nat→Nat→List UInt8
 | 0,_=>[]
 | f+1,n=>if n < 10 then [UInt8.ofNat (48+n)] else decF f (n / 10)++[UInt8.ofNat (48+n % 10)]
def decT (n:Nat) : List UInt8:=decF (n+1) n
theorem decF_same:∀ (f g n:Nat),n < f→n < g→decF f n=decF g n
 | 0,_,_,h,_=>by omega
 | _+1,0,_,_,h=>by omega
 | f+1,g+1,n,hf,hg=>by
  rw[decF,decF]
  by_cases h:n < 10
  ·rw[if_pos h,if_pos h]
  ·rw[if_neg h,if_neg h,decF_same f g (n / 10) (by omega) (by omega)]
theorem decT_lo {n:Nat} (h:n < 10) : decT n=[UInt8.ofNat (48+n)]:=by unfold decT; rw[decF,if_pos h]
theorem decT_hi {n:Nat} (h:¬ n < 10) : decT n=decT (n / 10)++decT (n % 10):=by
 rw[decT_lo (n:=n % 10) (by omega)]
 unfold decT
 rw[decF,if_neg h,decF_same n (n / 10+1) (n / 10) (by omega) (by omega)]
theorem decT_len:∀ n:Nat,(decT n).length≤n+1:=fun n=>by
 have:∀ f n,(decF f n).length≤f:=by
  intro f
  induction f with
  | zero=>intro n; simp[decF]
  | succ f ih=>
   intro n
   rw[decF]
   split
   ·simp
   ·have:=ih (n / 10); simp; omega
 exact this (n+1) n
theorem dec_walk:∀ (b n:Nat) (w:World),n≤b→n≤1000000000→Calls Tryz.prog 60 #[.int .i64 (n:Int)] w fun e w'=>e = .returned (.string (strOf (decT n)))∧Below w.heap.size w w':=by
 intro b
 induction b with
 | zero=>
  intro n w hn _
  obtain rfl:n=0:=by omega
  have hcv:=convert_bytes w (decT 0) #[.int .u8 48] 1 rfl rfl
  generalize decT 0=u at *
  go_enter Tryz.func60,Tryz.ntmps60
  go_wp2
  go_ret
  exact⟨rfl,(Below.refl _ _).alloc (Nat.le_refl _) _⟩
 | succ b ih=>
  intro n w hn hm
  by_cases h:n < 10
  ·have hcv:=convert_bytes w (decT n) #[.int .u8 (48+(n:Int))] 1 (by rw[decT_lo h]; rfl) (by rw[decT_lo h]; simp[Lib.byteCells]; omega)
   have h1:(n:Int) < 10:=by omega
   generalize decT n=u at *
   clear ih
   go_enter Tryz.func60,Tryz.ntmps60
   go_wp2
   go_ret
   exact⟨rfl,(Below.refl _ _).alloc (Nat.le_refl _) _⟩
  ·have h1:¬ (n:Int) < 10:=by omega
   have hd:(n:Int) / 10=((n / 10:Nat) : Int):=by omega
   have hr:(n:Int) % 10=((n % 10:Nat) : Int):=by omega
   have HA:Hid (∀ w,Calls Tryz.prog 60 #[.int .i64 ((n / 10:Nat) : Int)] w fun e w'=>e = .returned (.string (strOf (decT (n / 10))))∧Below w.heap.size w w'):=fun w=>ih (n / 10) w (by omega) (by omega)
   have HB:Hid (∀ w,Calls Tryz.prog 60 #[.int .i64 ((n % 10:Nat) : Int)] w fun e w'=>e = .returned (.string (strOf (decT (n % 10))))∧Below w.heap.size w w'):=fun w=>ih (n % 10) w (by omega) (by omega)
   have HE:Hid (strOf (decT (n / 10))++strOf (decT (n % 10))=strOf (decT n)):=by show _=_; rw[strOf_app,← decT_hi h]
   have z1:(strOf (decT (n / 10))).size≤1000000001:=by rw[strOf_size]; have:=decT_len (n / 10); omega
   have z2:(strOf (decT (n % 10))).size≤1000000001:=by rw[strOf_size]; have:=decT_len (n % 10); omega
   have z3:(9223372036854775807 < (strOf (decT (n / 10))).size+(strOf (decT (n % 10))).size)=False:=eq_false (by omega)
   generalize strOf (decT n)=u at *
   generalize strOf (decT (n / 10))=u1 at *
   generalize strOf (decT (n % 10))=u2 at *
   generalize n / 10=q at *
   generalize n % 10=r at *
   clear ih h
   go_enter Tryz.func60,Tryz.ntmps60
   go_wp2_with fail
   refine (uh HA _).mono ?_
   rintro e w1 ⟨rfl,b1⟩
   go_wp2_with fail
   refine (uh HB _).mono ?_
   rintro e w2 ⟨rfl,b2⟩
   have B2:=below_next b1 b2
   clear HA HB
   go_wp2
   go_ret
   exact⟨by rw[← uh HE]; rfl,B2⟩
def PRd (rb:Nat) (s:ByteArray) (i:Nat) (d:Int) (w:World) : Prop:=w.heap[rb]?=some (.cells #[.string s,.int .i64 (i:Int),.int .i64 d] 68 (0,0))
theorem PRd.text {rb:Nat} {s:ByteArray} {i:Nat} {d:Int} {w:World} (h:PRd rb s i d w) : w.cell? ⟨rb,0,none⟩=some (.string s):=by rw[Lib.cell_of_heap h]; rfl
theorem PRd.at {rb:Nat} {s:ByteArray} {i:Nat} {d:Int} {w:World} (h:PRd rb s i d w) : w.cell? ⟨rb,1,none⟩=some (.int .i64 (i:Int)):=by rw[Lib.cell_of_heap h]; rfl
theorem PRd.frozen {rb:Nat} {s:ByteArray} {i:Nat} {d:Int} {w:World} (h:PRd rb s i d w) : w.frozen? ⟨rb,1,none⟩=false:=Lib.frozen_of_heap h 1
theorem PRd.lt {rb:Nat} {s:ByteArray} {i:Nat} {d:Int} {w:World} (h:PRd rb s i d w) : rb < w.heap.size:=(Array.getElem?_eq_some_iff.1 h).1
theorem PRd.set {rb:Nat} {s:ByteArray} {i:Nat} {d:Int} {w:World} (h:PRd rb s i d w) (z:Int) (j:Nat) (hz:z=(j:Int)) : PRd rb s j d (w.setCell ⟨rb,1,none⟩ (.int .i64 z)):=by
 subst hz
 have:=heap_setCell_same w rb 1 _ 68 (.int .i64 (j:Int)) h
 exact this
theorem PRd.drewN {rb:Nat} {s:ByteArray} {i:Nat} {d:Int} {w:World} (h:PRd rb s i d w) (n:Nat) : PRd rb s i d (w.drewN n):=h
theorem PRd.below {rb:Nat} {s:ByteArray} {i:Nat} {d:Int} {w w':World} (h:PRd rb s i d w) (hb:Below w.heap.size w w') : PRd rb s i d w':=(hb.block rb h.lt).trans h
theorem pnext_in (rb:Nat) (s:ByteArray) (i:Nat) (d:Int) (w:World) (h:PRd rb s i d w) (hs:s.size≤1048576) (hi:i < s.size) :
  Calls Tryz.prog 68 #[.pointer (some ⟨rb,0,none⟩)] w fun e w'=>e = .returned (.int .u8 (bt s i))∧PRd rb s (i+1) d w'∧KB rb w w':=by
 have c0:=h.text
 have c1:=h.at
 have f1:=h.frozen
 have hne:((i:Int) == (s.size:Int))=false:=by rw[beq_eq_false_iff_ne]; omega
 have HB:=hide (bt_at s i hi)
 have H:=hide h
 clear h
 go_enter Tryz.func68,Tryz.ntmps68
 go_wp2_with fail
 go_quiet (fail)
 go_wp2_with fail
 go_quiet (fail)
 go_wp2
 go_ret
 exact⟨by rw[uh HB]; rfl,((uh H).drewN _).set _ _ (by omega),((KB.refl rb w).drewN _).set 1 _⟩
theorem pnext_out (rb:Nat) (s:ByteArray) (i:Nat) (d:Int) (w:World) (h:PRd rb s i d w) (hi:i=s.size) :
  Calls Tryz.prog 68 #[.pointer (some ⟨rb,0,none⟩)] w fun e w'=>e=mis∧KB rb w w':=by
 have c0:=h.text
 have c1:=h.at
 have f1:=h.frozen
 have hne:((i:Int) == (s.size:Int))=true:=by rw[beq_iff_eq]; omega
 clear h
 go_enter Tryz.func68,Tryz.ntmps68
 go_wp2_with fail
 go_quiet (fail)
 go_wp2
 exact⟨rfl,rfl,(KB.refl rb w).drewN _⟩
theorem pexpect_yes (rb:Nat) (s:ByteArray) (i:Nat) (d:Int) (w:World) (h:PRd rb s i d w) (hs:s.size≤1048576) (c:Nat) (hc:bt s i=c) (h0:i < s.size) :
  Calls Tryz.prog 48 #[.pointer (some ⟨rb,0,none⟩),.int .u8 c] w fun e w'=>e = .returned (.tuple #[])∧PRd rb s (i+1) d w'∧KB rb w w':=by
 have HN:=hide (pnext_in rb s i d w h hs h0)
 rw[hc] at HN
 clear h hc h0 hs
 go_enter Tryz.func48,Tryz.ntmps48
 go_wp2_with fail
 refine (uh HN).mono ?_
 rintro e w1 ⟨rfl,r1,k1⟩
 have R1:=hide r1
 clear r1 HN
 go_wp2
 go_end0
 exact⟨rfl,uh R1,k1⟩
theorem pexpect_no (rb:Nat) (s:ByteArray) (i:Nat) (d:Int) (w:World) (h:PRd rb s i d w) (hs:s.size≤1048576) (hi:i≤s.size) (c:Nat) (hc:bt s i≠c∨i=s.size) :
  Calls Tryz.prog 48 #[.pointer (some ⟨rb,0,none⟩),.int .u8 c] w fun e w'=>e=mis∧KB rb w w':=by
 by_cases hi':i=s.size
 ·have HN:=hide (pnext_out rb s i d w h hi')
  clear h hc hs
  go_enter Tryz.func48,Tryz.ntmps48
  go_wp2_with fail
  refine (uh HN).mono ?_
  rintro e w1 ⟨rfl,k1⟩
  clear HN
  exact⟨rfl,rfl,k1⟩
 ·have HN:=hide (pnext_in rb s i d w h hs (by omega))
  have hne:(((bt s i:Nat) : Int) != (c:Int))=true:=by rw[bne_iff_ne]; omega
  generalize bt s i=b at *
  clear h hc hs
  go_enter Tryz.func48,Tryz.ntmps48
  go_wp2_with fail
  refine (uh HN).mono ?_
  rintro e w1 ⟨rfl,r1,k1⟩
  clear r1 HN
  go_wp2
  exact⟨rfl,rfl,k1⟩
theorem pskip_yes (rb:Nat) (s:ByteArray) (i:Nat) (d:Int) (w:World) (h:PRd rb s i d w) (hs:s.size≤1048576) (c:Nat) (hc:bt s i=c) (h0:i < s.size) :
  Calls Tryz.prog 69 #[.pointer (some ⟨rb,0,none⟩),.int .u8 c] w fun e w'=>e = .returned (.bool true)∧PRd rb s (i+1) d w'∧KB rb w w':=by
 have c0:=h.text
 have c1:=h.at
 have f1:=h.frozen
 have hne:((i:Int) == (s.size:Int))=false:=by rw[beq_eq_false_iff_ne]; omega
 rw[bt_at s i h0] at hc
 subst hc
 have H:=hide h
 clear h
 go_enter Tryz.func69,Tryz.ntmps69
 go_wp2_with fail
 go_quiet (fail)
 go_wp2
 go_ret
 exact⟨rfl,((uh H).drewN _).set _ _ (by omega),((KB.refl rb w).drewN _).set 1 _⟩
theorem pskip_no (rb:Nat) (s:ByteArray) (i:Nat) (d:Int) (w:World) (h:PRd rb s i d w) (hi:i≤s.size) (c:Nat) (hc:bt s i≠c∨i=s.size) :
  Calls Tryz.prog 69 #[.pointer (some ⟨rb,0,none⟩),.int .u8 c] w fun e w'=>e = .returned (.bool false)∧PRd rb s i d w'∧KB rb w w':=by
 have c0:=h.text
 have c1:=h.at
 have H:=hide h
 clear h
 by_cases hi':i=s.size
 ·have hne:((i:Int) == (s.size:Int))=true:=by rw[beq_iff_eq]; omega
  go_enter Tryz.func69,Tryz.ntmps69
  go_wp2_with fail
  go_quiet (fail)
  go_wp2
  go_ret
  exact⟨rfl,(uh H).drewN _,(KB.refl rb w).drewN _⟩
 ·have h0:i < s.size:=by omega
  have hne:((i:Int) == (s.size:Int))=false:=by rw[beq_eq_false_iff_ne]; omega
  have hnc:((s[i].toNat:Int) != (c:Int))=true:=by
   rw[bne_iff_ne]; rw[bt_at s i h0] at hc; omega
  clear hc
  go_enter Tryz.func69,Tryz.ntmps69
  go_wp2_with fail
  go_quiet (fail)
  go_wp2
  go_ret
  exact⟨rfl,(uh H).drewN _,(KB.refl rb w).drewN _⟩
theorem ppeek (rb:Nat) (s:ByteArray) (i:Nat) (d:Int) (w:World) (h:PRd rb s i d w) (hi:i≤s.size) :
  Calls Tryz.prog 91 #[.pointer (some ⟨rb,0,none⟩)] w fun e w'=>e = .returned (.int .u8 (bt s i))∧PRd rb s i d w'∧KB rb w w':=by
 have c0:=h.text
 have c1:=h.at
 have H:=hide h
 clear h
 by_cases hi':i=s.size
 ·have hne:((i:Int) == (s.size:Int))=true:=by rw[beq_iff_eq]; omega
  have HB:=hide (bt_out s i (by omega))
  go_enter Tryz.func91,Tryz.ntmps91
  go_wp2_with fail
  go_quiet (fail)
  go_wp2
  go_ret
  exact⟨by rw[uh HB]; rfl,(uh H).drewN _,(KB.refl rb w).drewN _⟩
 ·have h0:i < s.size:=by omega
  have hne:((i:Int) == (s.size:Int))=false:=by rw[beq_eq_false_iff_ne]; omega
  have HB:=hide (bt_at s i h0)
  go_enter Tryz.func91,Tryz.ntmps91
  go_wp2_with fail
  go_quiet (fail)
  go_wp2_with fail
  go_quiet (fail)
  go_wp2
  go_ret
  exact⟨by rw[uh HB]; rfl,((uh H).drewN _).drewN _,((KB.refl rb w).drewN _).drewN _⟩
theorem digN_walk (b:Nat) (w:World) : Calls Tryz.prog 92 #[.int .u8 b] w fun e w'=>e = .returned (.bool (isDg b))∧w=w':=by
 by_cases h:48≤b
 ·have HD:Hid (isDg b=decide ((b:Int)≤57)):=by
   show _=_
   unfold isDg
   rw[decide_eq_true h,Bool.true_and]
   apply decide_eq_decide.2; omega
  have h1:(48:Int)≤(b:Int):=by omega
  go_enter Tryz.func92,Tryz.ntmps92
  go_wp2
  go_ret
  exact⟨by rw[uh HD]; rfl,rfl⟩
 ·have HD:Hid (isDg b=false):=by
   show _=_
   unfold isDg
   rw[decide_eq_false h,Bool.false_and]
  have h1:¬ (48:Int)≤(b:Int):=by omega
  go_enter Tryz.func92,Tryz.ntmps92
  go_wp2
  go_ret
  exact⟨by rw[uh HD]; rfl,rfl⟩
def nmB (n:Nat) : Bool:=decide (n=95) || isDg n || (decide (97≤n) && decide (n≤122)) || (decide (65≤n) && decide (n≤90))
theorem nmB_is (c:UInt8) : nmB c.toNat=isNm c:=by
 unfold nmB isNm isLet
 cases decide (c.toNat=95) <;> cases isDg c.toNat <;> cases (decide (97≤c.toNat) && decide (c.toNat≤122)) <;> cases (decide (65≤c.toNat) && decide (c.toNat≤90)) <;> rfl
theorem nameByte_walk (n:Nat) (w:World) : Calls Tryz.prog 90 #[.int .u8 n] w fun e w'=>e = .returned (.bool (nmB n))∧w=w':=by
 have HDW:=hide (digN_walk n w)
 have HV:Hid (nmB n=(decide (n=95) || isDg n || (decide (97≤n) && decide (n≤122)) || (decide (65≤n) && decide (n≤90)))):=rfl
 by_cases h95:n=95
 ·subst h95
  clear HDW
  go_enter Tryz.func90,Tryz.ntmps90
  go_wp2
  go_ret
  exact⟨by rw[uh HV]; rfl,rfl⟩
 ·have b95:((n:Int) == 95)=false:=by rw[beq_eq_false_iff_ne]; omega
  rw[decide_eq_false h95,Bool.false_or] at HV
  cases hg:isDg n with
  | true=>
   rw[hg] at HDW HV
   clear hg
   go_enter Tryz.func90,Tryz.ntmps90
   go_wp2_with fail
   refine (uh HDW).mono ?_
   rintro e w2 ⟨rfl,rfl⟩
   clear HDW
   go_wp2
   go_ret
   exact⟨by rw[uh HV]; rfl,rfl⟩
  | false=>
   rw[hg,Bool.false_or] at HV
   rw[hg] at HDW
   clear hg
   generalize nmB n=V at *
   by_cases h1:97≤n
   ·have i1:(97:Int)≤(n:Int):=by omega
    by_cases h2:n≤122
    ·have i2:(n:Int)≤122:=by omega
     go_enter Tryz.func90,Tryz.ntmps90
     go_wp2_with fail
     refine (uh HDW).mono ?_
     rintro e w2 ⟨rfl,rfl⟩
     clear HDW
     go_wp2
     go_ret
     exact⟨by rw[uh HV]; simp[h1,h2],rfl⟩
    ·have i2:¬ (n:Int)≤122:=by omega
     have i3:(65:Int)≤(n:Int):=by omega
     have i4:¬ (n:Int)≤90:=by omega
     go_enter Tryz.func90,Tryz.ntmps90
     go_wp2_with fail
     refine (uh HDW).mono ?_
     rintro e w2 ⟨rfl,rfl⟩
     clear HDW
     go_wp2
     go_ret
     exact⟨by rw[uh HV]; simp[h2,show ¬ n≤90 by omega,i2,i4],rfl⟩
   ·have i1:¬ (97:Int)≤(n:Int):=by omega
    by_cases h3:65≤n
    ·have i3:(65:Int)≤(n:Int):=by omega
     by_cases h4:n≤90
     ·have i4:(n:Int)≤90:=by omega
      go_enter Tryz.func90,Tryz.ntmps90
      go_wp2_with fail
      refine (uh HDW).mono ?_
      rintro e w2 ⟨rfl,rfl⟩
      clear HDW
      go_wp2
      go_ret
      exact⟨by rw[uh HV]; simp[h3,h4],rfl⟩
     ·have i4:¬ (n:Int)≤90:=by omega
      go_enter Tryz.func90,Tryz.ntmps90
      go_wp2_with fail
      refine (uh HDW).mono ?_
      rintro e w2 ⟨rfl,rfl⟩
      clear HDW
      go_wp2
      go_ret
      exact⟨by rw[uh HV]; simp[h1,h4,i4],rfl⟩
    ·have i3:¬ (65:Int)≤(n:Int):=by omega
     go_enter Tryz.func90,Tryz.ntmps90
     go_wp2_with fail
     refine (uh HDW).mono ?_
     rintro e w2 ⟨rfl,rfl⟩
     clear HDW
     go_wp2
     go_ret
     exact⟨by rw[uh HV]; simp[h1,h3],rfl⟩
structure NmRun (s:ByteArray) (i j:Nat) : Prop where
 le:i≤j
 sz:j≤s.size
 run:∀ m (hm:m < s.size),i≤m→m < j→isNm s[m]=true
 fst:i < j→∀ h:i < s.size,isLet s[i]=true
theorem dr_get {s:ByteArray} {i m:Nat} (hm:m < (dr s i).length) (h:i+m < s.size) : (dr s i)[m]=s[i+m]:=by
 have e:(dr s i)[m]?=some s[i+m]:=by
  unfold dr
  rw[List.getElem?_drop,getElem_data s (i+m) h]
 rw[List.getElem?_eq_getElem hm] at e
 injection e
theorem nm_none {s:ByteArray} {i:Nat} (h:∀ hi:i < s.size,isLet s[i]=false) : pName (dr s i)=none:=by
 by_cases hi:i < s.size
 ·rw[dr_at hi]
  show (if isLet s[i]=true then _ else none)=none
  rw[if_neg (by rw[h hi]; decide)]
 ·rw[dr_end (by omega)]; rfl
theorem NmRun.fin {s:ByteArray} {i j:Nat} (h:NmRun s i j) (hij:i < j) (hstop:∀ hj:j < s.size,isNm s[j]=false) : pName (dr s i)=some ((dr s i).take (j - i),dr s j):=by
 have hsz:=h.sz
 have e:dr s i=(dr s i).take (j - i)++dr s j:=by
  conv=>lhs; rw[← List.take_append_drop (j - i) (dr s i)]
  congr 1
  unfold dr
  rw[List.drop_drop,show i+(j - i)=j by omega]
 have hN:sName ((dr s i).take (j - i))=true:=by
  have h0:i < s.size:=by omega
  obtain⟨q,hq⟩ : ∃ q,j - i=q+1:=⟨j - i - 1,by omega⟩
  have e1:(dr s i).take (j - i)=s[i] :: (dr s (i+1)).take q:=by rw[hq,dr_at h0]; rfl
  rw[e1]
  show (isLet s[i] && ((dr s (i+1)).take q).all isNm)=true
  rw[h.fst hij h0,Bool.true_and,List.all_eq_true]
  intro c hc
  obtain⟨m,hm,rfl⟩:=List.mem_iff_getElem.1 hc
  rw[List.length_take,dr_len] at hm
  rw[List.getElem_take,dr_get (by rw[dr_len]; omega) (by omega)]
  exact h.run _ _ (by omega) (by omega)
 have hE:NoNm (dr s j):=by
  intro c r hcr
  by_cases hj:j < s.size
  ·rw[dr_at hj] at hcr
   injection hcr with h1 _
   rw[← h1]; exact hstop hj
  ·rw[dr_end (by omega)] at hcr; cases hcr
 have:=pName_ext hN hE
 rw[← e] at this
 exact this
theorem let_nm {c:UInt8} (h:isNm c=true) (hd:isDg c.toNat=false) : isLet c=true:=by
 unfold isNm at h
 rw[hd,Bool.or_false] at h; exact h
theorem dg_let {c:UInt8} (h:isDg c.toNat=true) : isLet c=false:=by
 have:=isDg_iff.1 h
 unfold isLet
 simp only[Bool.or_eq_false_iff,Bool.and_eq_false_iff,decide_eq_false_iff_not]
 omega
theorem NmRun.step {s:ByteArray} {i j:Nat} (h:NmRun s i j) (hj:j < s.size) (hn:isNm s[j]=true) (hf:i < j∨isDg s[j].toNat=false) : NmRun s i (j+1):=by
 refine⟨by have:=h.le; omega,by omega,fun m hm h1 h2=>?_,fun _ hi=>?_⟩
 ·by_cases e:m=j
  ·subst e; exact hn
  ·exact h.run m hm h1 (by omega)
 ·by_cases e:i=j
  ·subst e
   rcases hf with hf | hf
   ·omega
   ·exact let_nm hn hf
  ·exact h.fst (by have:=h.le; omega) hi
theorem readName_walk (rb:Nat) (s:ByteArray) (i:Nat) (d:Int) (w:World) (h:PRd rb s i d w) (hs:s.size≤1048576) (hi:i≤s.size) :
  Calls Tryz.prog 71 #[.pointer (some ⟨rb,0,none⟩)] w fun e w'=>KB rb w w'∧((pName (dr s i)=none∧e=mis)∨∃ x t,pName (dr s i)=some (x,t)∧e = .returned (.string (bsT x))∧PRd rb s (i+x.length) d w'):=by
 have R0:=hide h
 have c1:=h.at
 have HP:Hid (∀ j w,j≤s.size→PRd rb s j d w→Calls Tryz.prog 91 #[.pointer (some ⟨rb,0,none⟩)] w fun e w'=>e = .returned (.int .u8 (bt s j))∧PRd rb s j d w'∧KB rb w w'):=fun j w hj hr=>ppeek rb s j d w hr hj
 clear h
 go_enter Tryz.func71,Tryz.ntmps71
 go_wp2
 go_loopg [] (s.size - i) (fun g wr=>∃ j:Nat,g=s.size - j∧Hid (NmRun s i j)∧Hid (PRd rb s j d wr)∧KB rb w wr)
 case atStart=>exact⟨i,rfl,⟨Nat.le_refl _,hi,fun m hm h1 h2=>by omega,fun h=>by omega⟩,R0,KB.refl _ _⟩
 case round=>
  obtain⟨j,hg,hrun,hr,hk⟩:=hrel
  have hle:=(uh hrun).le
  have hsz:=(uh hrun).sz
  have HK:=hide hk
  have HPj:=hide (uh HP j wr hsz (uh hr))
  have HNB:Hid (∀ w,Calls Tryz.prog 90 #[.int .u8 (bt s j)] w fun e w'=>e = .returned (.bool (nmB (bt s j)))∧w=w'):=fun w=>nameByte_walk _ w
  have HDB:Hid (∀ w,Calls Tryz.prog 92 #[.int .u8 (bt s j)] w fun e w'=>e = .returned (.bool (isDg (bt s j)))∧w=w'):=fun w=>digN_walk _ w
  have hbt:∀ hj:j < s.size,bt s j=s[j].toNat:=fun hj=>bt_at s j hj
  have HBT:=hide hbt
  clear R0 c1 hk hbt
  cases hnm:nmB (bt s j) with
  | true=>
   rw[hnm] at HNB
   have hlt:j < s.size:=bt_in (by intro e; rw[e] at hnm; exact absurd hnm (by decide))
   have hn:isNm s[j]=true:=by rw[← nmB_is,← uh HBT hlt]; exact hnm
   go_wp2_with fail
   refine (uh HPj).mono ?_
   rintro e w2 ⟨rfl,r2,k2⟩
   have cA:=r2.at
   have fA:=r2.frozen
   have R2:=hide r2
   have HK2:=hide ((uh HK).trans k2)
   clear r2 k2 HPj hr HK
   go_wp2_with fail
   refine (uh HNB _).mono ?_
   rintro e w3 ⟨rfl,rfl⟩
   clear HNB
   by_cases hij:i < j
   ·have i1:(i:Int) < (j:Int):=by omega
    have HS:=hide ((uh hrun).step hlt hn (.inl hij))
    clear hnm hn HBT HP HDB hrun
    go_wp2
    go_roundg (s.size - (j+1))
    case rel=>exact⟨j+1,rfl,HS,(uh R2).set _ _ (by omega),(uh HK2).set 1 _⟩
    case measure=>omega
   ·obtain rfl:i=j:=by omega
    have HP2:=hide (uh HP i w2 hsz (uh R2))
    clear hnm HP fA cA
    cases hdg:isDg (bt s i) with
    | true=>
     rw[hdg] at HDB
     have HF:=hide (nm_none (s:=s) (i:=i) fun hj=>dg_let (by rw[← uh HBT hj]; exact hdg))
     clear hdg hn HBT hrun
     have cB:=(uh R2).at
     go_wp2_with fail
     refine (uh HP2).mono ?_
     rintro e w3 ⟨rfl,r3,k3⟩
     have cC:=r3.at
     have HK3:=hide ((uh HK2).trans k3)
     clear r3 k3 HP2 cB
     go_wp2_with fail
     refine (uh HDB _).mono ?_
     rintro e w4 ⟨rfl,rfl⟩
     clear HDB
     go_wp2
     exact⟨rfl,(uh HK3),.inl ⟨uh HF,rfl⟩⟩
    | false=>
     rw[hdg] at HDB
     have HS:=hide ((uh hrun).step hlt hn (.inr (by rw[← uh HBT hlt]; exact hdg)))
     clear hdg hn HBT hrun
     have cB:=(uh R2).at
     go_wp2_with fail
     refine (uh HP2).mono ?_
     rintro e w3 ⟨rfl,r3,k3⟩
     have cC:=r3.at
     have fC:=r3.frozen
     have R3:=hide r3
     have HK3:=hide ((uh HK2).trans k3)
     clear r3 k3 HP2 cB
     go_wp2_with fail
     refine (uh HDB _).mono ?_
     rintro e w4 ⟨rfl,rfl⟩
     clear HDB
     go_wp2
     go_roundg (s.size - (i+1))
     case rel=>exact⟨i+1,rfl,HS,(uh R3).set _ _ (by omega),(uh HK3).set 1 _⟩
     case measure=>omega
  | false=>
   rw[hnm] at HNB
   have hstop:∀ hj:j < s.size,isNm s[j]=false:=fun hj=>by rw[← nmB_is,← uh HBT hj]; exact hnm
   go_wp2_with fail
   refine (uh HPj).mono ?_
   rintro e w2 ⟨rfl,r2,k2⟩
   have cA:=r2.at
   have cT:=r2.text
   have R2:=hide r2
   have HK2:=hide ((uh HK).trans k2)
   clear r2 k2 HPj hr HK
   go_wp2_with fail
   refine (uh HNB _).mono ?_
   rintro e w3 ⟨rfl,rfl⟩
   clear HNB HDB
   by_cases hij:i < j
   ·have HF:=hide ((uh hrun).fin hij hstop)
    have b1:((j:Int) == (i:Int))=false:=by rw[beq_eq_false_iff_ne]; omega
    have i1:(i:Int)≤(j:Int):=by omega
    have i2:(j:Int)≤(s.size:Int):=by omega
    have i3:(0:Int)≤(i:Int):=by omega
    have HX:Hid (s.extract i j=bsT ((dr s i).take (j - i))):=by show _=_; unfold bsT dr; rw[← Lib.extract_data]
    have hlen:((dr s i).take (j - i)).length=j - i:=by rw[List.length_take,dr_len]; omega
    clear hstop hnm HBT HP
    go_wp2
    go_quiet (fail)
    go_wp2
    go_ret
    refine⟨(uh HK2).drewN _,.inr ⟨_,_,uh HF,by rw[← uh HX]; rfl,?_⟩⟩
    rw[hlen,show i+(j - i)=j by omega]
    exact (uh R2).drewN _
   ·obtain rfl:i=j:=by omega
    have HF:=hide (nm_none (s:=s) (i:=i) fun hj=>by
     have:=hstop hj
     unfold isNm at this
     rw[Bool.or_eq_false_iff] at this
     exact this.1)
    have b1:((i:Int) == (i:Int))=true:=by simp
    clear hstop hnm HBT HP
    go_wp2
    exact⟨rfl,(uh HK2),.inl ⟨uh HF,rfl⟩⟩
theorem dr_dr' (s:ByteArray) (i j:Nat) : (dr s i).drop j=dr s (i+j):=by unfold dr; rw[List.drop_drop]
structure DgRun (s:ByteArray) (p k:Nat) : Prop where
 sz:p+k≤s.size
 nine:k≤9
 run:∀ m,m < k→∀ hm:p+m < s.size,isDg s[p+m].toNat=true
theorem DgRun.step {s:ByteArray} {p k:Nat} (h:DgRun s p k) (hk:k < 9) (hj:p+k < s.size) (hd:isDg s[p+k].toNat=true) : DgRun s p (k+1):=by
 refine⟨by omega,by omega,fun m hm hx=>?_⟩
 by_cases e:m=k
 ·subst e; exact hd
 ·exact h.run m (by omega) hx
theorem DgRun.all {s:ByteArray} {p k:Nat} (h:DgRun s p k) : ((dr s p).take k).all (fun c=>isDg c.toNat)=true:=by
 have hsz:=h.sz
 rw[List.all_eq_true]
 intro c hc
 obtain⟨m,hm,rfl⟩:=List.mem_iff_getElem.1 hc
 rw[List.length_take,dr_len] at hm
 rw[List.getElem_take,dr_get (by rw[dr_len]; omega) (by omega)]
 exact h.run m (by omega) _
theorem DgRun.fin {s:ByteArray} {p k:Nat} (h:DgRun s p k) (h0:0 < k) (hz:∀ hp:p < s.size,¬ s[p]=48) (hstop:k=9∨∀ hj:p+k < s.size,isDg s[p+k].toNat=false) : pNat (dr s p)=some ((digV ((dr s p).take k) : Int),dr s (p+k)):=by
 have hsz:=h.sz
 have h9:=h.nine
 have hp:p < s.size:=by omega
 have e:((dr s p).take 9).takeWhile (fun c=>isDg c.toNat)=(dr s p).take k:=by
  have e1:(dr s p).take 9=(dr s p).take k++(dr s (p+k)).take (9 - k):=by
   rw[← dr_dr',← List.take_add]
   congr 1; omega
  rw[e1,tw_app h.all,tw_stop,List.append_nil]
  intro x y hxy
  rcases hstop with rfl | hstop
  ·simp at hxy
  ·by_cases hj:p+k < s.size
   ·rw[dr_at hj] at hxy
    cases hq:9 - k with
    | zero=>rw[hq] at hxy; cases hxy
    | succ q=>
     rw[hq] at hxy
     injection hxy with h1 _
     rw[← h1]; exact hstop hj
   ·rw[dr_end (by omega)] at hxy; simp at hxy
 have hlen:((dr s p).take k).length=k:=by rw[List.length_take,dr_len]; omega
 have hd:isDg s[p].toNat=true:=h.run 0 h0 hp
 have e2:pNat (dr s p)=some ((digV (((dr s p).take 9).takeWhile fun c=>isDg c.toNat) : Int),(dr s p).drop (((dr s p).take 9).takeWhile fun c=>isDg c.toNat).length):=by
  rw[dr_at hp]
  show (if isDg s[p].toNat=true∧s[p]≠48 then _ else none)=_
  rw[if_pos ⟨hd,hz hp⟩]
 rw[e2,e,hlen,dr_dr']
theorem nat_none {s:ByteArray} {p:Nat} (h:∀ hp:p < s.size,s[p]=48∨isDg s[p].toNat=false) : pNat (dr s p)=none:=by
 by_cases hp:p < s.size
 ·rw[dr_at hp]
  show (if isDg s[p].toNat=true∧s[p]≠48 then _ else none)=none
  rw[if_neg]
  rintro⟨h1,h2⟩
  rcases h hp with h3 | h3
  ·exact h2 h3
  ·rw[h3] at h1; cases h1
 ·rw[dr_end (by omega)]; rfl
theorem bt_u8 {s:ByteArray} {i:Nat} (c:UInt8) (h:i < s.size) : bt s i=c.toNat↔s[i]=c:=by
 rw[bt_at s i h]; exact UInt8.toNat_inj
theorem readInt_walk (rb:Nat) (s:ByteArray) (i:Nat) (d:Int) (w:World) (h:PRd rb s i d w) (hs:s.size≤1048576) (hi:i≤s.size) :
  Calls Tryz.prog 130 #[.pointer (some ⟨rb,0,none⟩)] w fun e w'=>KB rb w w'∧((pInt (dr s i)=none∧e=mis)∨∃ n j,pInt (dr s i)=some (n,dr s j)∧e = .returned (.int .i64 n)∧i≤j∧j≤s.size∧PRd rb s j d w'):=by
 have HP:Hid (∀ j w,j≤s.size→PRd rb s j d w→Calls Tryz.prog 91 #[.pointer (some ⟨rb,0,none⟩)] w fun e w'=>e = .returned (.int .u8 (bt s j))∧PRd rb s j d w'∧KB rb w w'):=fun j w hj hr=>ppeek rb s j d w hr hj
 have HX:Hid (∀ j w,j < s.size→PRd rb s j d w→Calls Tryz.prog 68 #[.pointer (some ⟨rb,0,none⟩)] w fun e w'=>e = .returned (.int .u8 (bt s j))∧PRd rb s (j+1) d w'∧KB rb w w'):=fun j w hj hr=>pnext_in rb s j d w hr hs hj
 have HD:Hid (∀ b w,Calls Tryz.prog 92 #[.int .u8 ((b:Nat) : Int)] w fun e w'=>e = .returned (.bool (isDg b))∧w=w'):=fun b w=>digN_walk b w
 by_cases h48:∃ h0:i < s.size,s[i]=48
 ·obtain⟨h0,h48⟩:=h48
  have HS:=hide (pskip_yes rb s i d w h hs 48 ((bt_u8 48 h0).2 h48) h0)
  have HV:Hid (pInt (dr s i)=some (0,dr s (i+1))):=by
   show _=_
   rw[dr_at h0]
   show (if s[i]=48 then some (0,dr s (i+1)) else _)=_
   rw[if_pos h48]
  clear h h48 HP HX HD
  go_enter Tryz.func130,Tryz.ntmps130
  go_wp2_with fail
  refine (uh HS).mono ?_
  rintro e w2 ⟨rfl,r2,k2⟩
  have R2:=hide r2
  clear HS r2
  go_wp2
  go_ret
  exact⟨k2,.inr ⟨0,i+1,uh HV,rfl,by omega,by omega,uh R2⟩⟩
 ·have n48:∀ h0:i < s.size,¬ s[i]=48:=fun h0 e=>h48 ⟨h0,e⟩
  have HS:=hide (pskip_no rb s i d w h hi 48 (by
   rcases Nat.lt_or_ge i s.size with h0 | h0
   ·left; intro e; exact n48 h0 ((bt_u8 48 h0).1 e)
   ·right; omega))
  clear h h48
  by_cases h45:∃ h0:i < s.size,s[i]=45
  ·obtain⟨h0,h45⟩:=h45
   have HS2:Hid (∀ w,PRd rb s i d w→Calls Tryz.prog 69 #[.pointer (some ⟨rb,0,none⟩),.int .u8 45] w fun e w'=>e = .returned (.bool true)∧PRd rb s (i+1) d w'∧KB rb w w'):=fun w h=>pskip_yes rb s i d w h hs 45 ((bt_u8 45 h0).2 h45) h0
   have HV:Hid (pInt (dr s i)=(pNat (dr s (i+1))).map fun p=>(-p.1,p.2)):=by
    show _=_
    rw[dr_at h0]
    show (if s[i]=48 then _ else if s[i]=45 then (pNat (dr s (i+1))).map (fun p=>(-p.1,p.2)) else _)=_
    rw[if_neg (n48 h0),if_pos h45]
   have hp:i+1≤s.size:=by omega
   clear h45 n48
   go_enter Tryz.func130,Tryz.ntmps130
   go_wp2_with fail
   refine (uh HS).mono ?_
   rintro e w2 ⟨rfl,r2,k2⟩
   clear HS
   go_wp2_with fail
   refine (uh HS2 _ r2).mono ?_
   rintro e w3 ⟨rfl,r3,k3⟩
   have HK3:=hide (k2.trans k3)
   clear HS2 r2 k2 k3
   go_wp2_with fail
   refine (uh HP _ _ hp r3).mono ?_
   rintro e w4 ⟨rfl,r4,k4⟩
   have HK4:=hide ((uh HK3).trans k4)
   have R4:=hide r4
   clear r3 k4 r4 HK3
   by_cases hz:bt s (i+1)=48
   ·have bz:(((bt s (i+1) : Nat) : Int) == 48)=true:=by rw[beq_iff_eq]; omega
    have HF:Hid (pInt (dr s i)=none):=by
     show _=_
     rw[uh HV,nat_none (fun h0=>.inl ((bt_u8 48 h0).1 hz))]; rfl
    clear HV HP HX HD hz
    go_wp2
    exact⟨rfl,uh HK4,.inl ⟨uh HF,rfl⟩⟩
   ·have bz:(((bt s (i+1) : Nat) : Int) == 48)=false:=by rw[beq_eq_false_iff_ne]; omega
    have HDP:=hide (uh HD (bt s (i+1)) w4)
    cases hdg:isDg (bt s (i+1)) with
    | false=>
     rw[hdg] at HDP
     have HF:Hid (pInt (dr s i)=none):=by
      show _=_
      rw[uh HV,nat_none (fun h0=>.inr (by rw[← bt_at s _ h0]; exact hdg))]; rfl
     clear HV HP HX HD hz hdg
     go_wp2_with fail
     refine (uh HDP).mono ?_
     rintro e w5 ⟨rfl,rfl⟩
     clear HDP
     go_wp2
     exact⟨rfl,uh HK4,.inl ⟨uh HF,rfl⟩⟩
    | true=>
     rw[hdg] at HDP
     have hP:i+1 < s.size:=bt_in (by intro e; rw[e] at hdg; exact absurd hdg (by decide))
     have hz2:∀ hp:i+1 < s.size,¬ s[i+1]=48:=fun h0 e=>hz ((bt_u8 48 h0).2 e)
     have HD0:Hid (isDg s[i+1].toNat=true):=by show _=_; rw[← bt_at s _ hP]; exact hdg
     clear hz hdg
     go_wp2_with fail
     refine (uh HDP).mono ?_
     rintro e w5 ⟨rfl,rfl⟩
     clear HDP bz
     generalize bt s (i+1)=b0 at *
     go_wp2
     go_loopw [5,6] (fun nv kv wr=>∃ k:Nat,nv = .int .i64 ((digV ((dr s (i+1)).take k) : Nat) : Int)∧kv = .int .i64 (k:Int)∧Hid (DgRun s (i+1) k)∧Hid (PRd rb s (i+1+k) d wr)∧KB rb w wr) (fun _ kv _=>9 - (intOf kv).toNat)
     case atStart=>exact⟨0,rfl,rfl,⟨by omega,by omega,fun m hm=>by omega⟩,R4,uh HK4⟩
     case round=>
      obtain⟨k,rfl,rfl,hrun,hr,hk⟩:=hrel
      have hsz:=(uh hrun).sz
      have h9:=(uh hrun).nine
      have HK:=hide hk
      have hlen:((dr s (i+1)).take k).length=k:=by rw[List.length_take,dr_len]; omega
      have hlo:digV ((dr s (i+1)).take k) < 1000000000:=by
       rcases dig_lt k _ hlen with h | h
       ·have:10 ^ k≤10 ^ 9:=Nat.pow_le_pow_right (by omega) h9
        omega
       ·exact absurd (List.all_eq_true.1 (uh hrun).all) h
      clear R4 HK4 hlen hk
      by_cases hk9:k < 9
      ·have k9:(k:Int) < 9:=by omega
       have HPk:=hide (uh HP _ wr hsz (uh hr))
       have HDk:Hid (∀ w,Calls Tryz.prog 92 #[.int .u8 ((bt s (i+1+k) : Nat) : Int)] w fun e w'=>e = .returned (.bool (isDg (bt s (i+1+k))))∧w=w'):=fun w=>uh HD _ w
       cases hdk:isDg (bt s (i+1+k)) with
       | true=>
        rw[hdk] at HDk
        have hj:i+1+k < s.size:=bt_in (by intro e; rw[e] at hdk; exact absurd hdk (by decide))
        have HR2:=hide ((uh hrun).step hk9 hj (by rw[← bt_at s _ hj]; exact hdk))
        have HST:Hid (digV ((dr s (i+1)).take (k+1))=digV ((dr s (i+1)).take k)*10+(bt s (i+1+k) - 48)):=by
         show _=_
         rw[List.take_succ_eq_append_getElem (by rw[dr_len]; omega),digV_snoc,dr_get (by rw[dr_len]; omega) hj,bt_at s _ hj]
        have hb:=isDg_iff.1 hdk
        generalize hB:bt s (i+1+k)=b at *
        generalize hDV:digV ((dr s (i+1)).take k)=DV at *
        have hb1:(48:Int)≤(b:Int):=by omega
        have hb2:(b:Int)≤57:=by omega
        clear hdk hDV
        go_wp2_with fail
        refine (uh HPk).mono ?_
        rintro e w6 ⟨rfl,r6,k6⟩
        have HK6:=hide ((uh HK).trans k6)
        have HN6:=hide (uh HX _ w6 hj r6)
        rw[hB] at HN6
        clear HPk r6 k6 HK
        go_wp2_with fail
        refine (uh HDk _).mono ?_
        rintro e w7 ⟨rfl,rfl⟩
        clear HDk
        go_wp2_with fail
        refine (uh HN6).mono ?_
        rintro e w8 ⟨rfl,r8,k8⟩
        have HK8:=hide ((uh HK6).trans k8)
        have R8:=hide r8
        clear HN6 r8 k8 HK6 hr hB
        go_wp2
        go_roundw
        case rel=>exact⟨k+1,by rw[uh HST]; go_num,by go_num,HR2,R8,uh HK8⟩
        case measure=>simp[intOf]; omega
       | false=>
        rw[hdk] at HDk
        have h0:0 < k:=by
         rcases Nat.eq_zero_or_pos k with e | e
         ·subst e
          have:=uh HD0
          rw[← bt_at s _ hP] at this
          rw[Nat.add_zero,this] at hdk; cases hdk
         ·exact e
        have HF:=hide ((uh hrun).fin h0 hz2 (.inr fun hj=>by rw[← bt_at s _ hj]; exact hdk))
        generalize bt s (i+1+k)=b at *
        clear hdk
        go_wp2_with fail
        refine (uh HPk).mono ?_
        rintro e w6 ⟨rfl,r6,k6⟩
        have HK6:=hide ((uh HK).trans k6)
        have R6:=hide r6
        clear HPk r6 k6 HK
        go_wp2_with fail
        refine (uh HDk _).mono ?_
        rintro e w7 ⟨rfl,rfl⟩
        clear HDk
        go_wp2
        go_ret
        exact⟨uh HK6,.inr ⟨_,i+1+k,by rw[uh HV,uh HF]; rfl,by first | rfl | (congr 2; go_num),by omega,hsz,uh R6⟩⟩
      ·obtain rfl:k=9:=by omega
       have HF:=hide ((uh hrun).fin (by omega) hz2 (.inl rfl))
       go_wp2
       go_ret
       exact⟨uh HK,.inr ⟨_,i+1+9,by rw[uh HV,uh HF]; rfl,by first | rfl | (congr 2; go_num),by omega,hsz,uh hr⟩⟩
  ·have HS2:Hid (∀ w,PRd rb s i d w→Calls Tryz.prog 69 #[.pointer (some ⟨rb,0,none⟩),.int .u8 45] w fun e w'=>e = .returned (.bool false)∧PRd rb s i d w'∧KB rb w w'):=fun w h=>pskip_no rb s i d w h hi 45 (by
    rcases Nat.lt_or_ge i s.size with h0 | h0
    ·left; intro e; exact h45 ⟨h0,(bt_u8 45 h0).1 e⟩
    ·right; omega)
   have HV:Hid (pInt (dr s i)=pNat (dr s i)):=by
    show _=_
    rcases Nat.lt_or_ge i s.size with h0 | h0
    ·rw[dr_at h0]
     show (if s[i]=48 then _ else if s[i]=45 then _ else pNat (s[i] :: dr s (i+1)))=_
     rw[if_neg (n48 h0),if_neg (fun e=>h45 ⟨h0,e⟩)]
    ·rw[dr_end h0]; rfl
   have hp:i≤s.size:=hi
   clear h45 n48
   go_enter Tryz.func130,Tryz.ntmps130
   go_wp2_with fail
   refine (uh HS).mono ?_
   rintro e w2 ⟨rfl,r2,k2⟩
   clear HS
   go_wp2_with fail
   refine (uh HS2 _ r2).mono ?_
   rintro e w3 ⟨rfl,r3,k3⟩
   have HK3:=hide (k2.trans k3)
   clear HS2 r2 k2 k3
   go_wp2_with fail
   refine (uh HP _ _ hp r3).mono ?_
   rintro e w4 ⟨rfl,r4,k4⟩
   have HK4:=hide ((uh HK3).trans k4)
   have R4:=hide r4
   clear r3 k4 r4 HK3
   by_cases hz:bt s (i)=48
   ·have bz:(((bt s (i) : Nat) : Int) == 48)=true:=by rw[beq_iff_eq]; omega
    have HF:Hid (pInt (dr s i)=none):=by
     show _=_
     rw[uh HV,nat_none (fun h0=>.inl ((bt_u8 48 h0).1 hz))]
    clear HV HP HX HD hz
    go_wp2
    exact⟨rfl,uh HK4,.inl ⟨uh HF,rfl⟩⟩
   ·have bz:(((bt s (i) : Nat) : Int) == 48)=false:=by rw[beq_eq_false_iff_ne]; omega
    have HDP:=hide (uh HD (bt s (i)) w4)
    cases hdg:isDg (bt s (i)) with
    | false=>
     rw[hdg] at HDP
     have HF:Hid (pInt (dr s i)=none):=by
      show _=_
      rw[uh HV,nat_none (fun h0=>.inr (by rw[← bt_at s _ h0]; exact hdg))]
     clear HV HP HX HD hz hdg
     go_wp2_with fail
     refine (uh HDP).mono ?_
     rintro e w5 ⟨rfl,rfl⟩
     clear HDP
     go_wp2
     exact⟨rfl,uh HK4,.inl ⟨uh HF,rfl⟩⟩
    | true=>
     rw[hdg] at HDP
     have hP:i < s.size:=bt_in (by intro e; rw[e] at hdg; exact absurd hdg (by decide))
     have hz2:∀ hp:i < s.size,¬ s[i]=48:=fun h0 e=>hz ((bt_u8 48 h0).2 e)
     have HD0:Hid (isDg s[i].toNat=true):=by show _=_; rw[← bt_at s _ hP]; exact hdg
     clear hz hdg
     go_wp2_with fail
     refine (uh HDP).mono ?_
     rintro e w5 ⟨rfl,rfl⟩
     clear HDP bz
     generalize bt s (i)=b0 at *
     go_wp2
     go_loopw [5,6] (fun nv kv wr=>∃ k:Nat,nv = .int .i64 ((digV ((dr s (i)).take k) : Nat) : Int)∧kv = .int .i64 (k:Int)∧Hid (DgRun s (i) k)∧Hid (PRd rb s (i+k) d wr)∧KB rb w wr) (fun _ kv _=>9 - (intOf kv).toNat)
     case atStart=>exact⟨0,rfl,rfl,⟨by omega,by omega,fun m hm=>by omega⟩,R4,uh HK4⟩
     case round=>
      obtain⟨k,rfl,rfl,hrun,hr,hk⟩:=hrel
      have hsz:=(uh hrun).sz
      have h9:=(uh hrun).nine
      have HK:=hide hk
      have hlen:((dr s (i)).take k).length=k:=by rw[List.length_take,dr_len]; omega
      have hlo:digV ((dr s (i)).take k) < 1000000000:=by
       rcases dig_lt k _ hlen with h | h
       ·have:10 ^ k≤10 ^ 9:=Nat.pow_le_pow_right (by omega) h9
        omega
       ·exact absurd (List.all_eq_true.1 (uh hrun).all) h
      clear R4 HK4 hlen hk
      by_cases hk9:k < 9
      ·have k9:(k:Int) < 9:=by omega
       have HPk:=hide (uh HP _ wr hsz (uh hr))
       have HDk:Hid (∀ w,Calls Tryz.prog 92 #[.int .u8 ((bt s (i+k) : Nat) : Int)] w fun e w'=>e = .returned (.bool (isDg (bt s (i+k))))∧w=w'):=fun w=>uh HD _ w
       cases hdk:isDg (bt s (i+k)) with
       | true=>
        rw[hdk] at HDk
        have hj:i+k < s.size:=bt_in (by intro e; rw[e] at hdk; exact absurd hdk (by decide))
        have HR2:=hide ((uh hrun).step hk9 hj (by rw[← bt_at s _ hj]; exact hdk))
        have HST:Hid (digV ((dr s (i)).take (k+1))=digV ((dr s (i)).take k)*10+(bt s (i+k) - 48)):=by
         show _=_
         rw[List.take_succ_eq_append_getElem (by rw[dr_len]; omega),digV_snoc,dr_get (by rw[dr_len]; omega) hj,bt_at s _ hj]
        have hb:=isDg_iff.1 hdk
        generalize hB:bt s (i+k)=b at *
        generalize hDV:digV ((dr s (i)).take k)=DV at *
        have hb1:(48:Int)≤(b:Int):=by omega
        have hb2:(b:Int)≤57:=by omega
        clear hdk hDV
        go_wp2_with fail
        refine (uh HPk).mono ?_
        rintro e w6 ⟨rfl,r6,k6⟩
        have HK6:=hide ((uh HK).trans k6)
        have HN6:=hide (uh HX _ w6 hj r6)
        rw[hB] at HN6
        clear HPk r6 k6 HK
        go_wp2_with fail
        refine (uh HDk _).mono ?_
        rintro e w7 ⟨rfl,rfl⟩
        clear HDk
        go_wp2_with fail
        refine (uh HN6).mono ?_
        rintro e w8 ⟨rfl,r8,k8⟩
        have HK8:=hide ((uh HK6).trans k8)
        have R8:=hide r8
        clear HN6 r8 k8 HK6 hr hB
        go_wp2
        go_roundw
        case rel=>exact⟨k+1,by rw[uh HST]; go_num,by go_num,HR2,R8,uh HK8⟩
        case measure=>simp[intOf]; omega
       | false=>
        rw[hdk] at HDk
        have h0:0 < k:=by
         rcases Nat.eq_zero_or_pos k with e | e
         ·subst e
          have:=uh HD0
          rw[← bt_at s _ hP] at this
          rw[Nat.add_zero,this] at hdk; cases hdk
         ·exact e
        have HF:=hide ((uh hrun).fin h0 hz2 (.inr fun hj=>by rw[← bt_at s _ hj]; exact hdk))
        generalize bt s (i+k)=b at *
        clear hdk
        go_wp2_with fail
        refine (uh HPk).mono ?_
        rintro e w6 ⟨rfl,r6,k6⟩
        have HK6:=hide ((uh HK).trans k6)
        have R6:=hide r6
        clear HPk r6 k6 HK
        go_wp2_with fail
        refine (uh HDk _).mono ?_
        rintro e w7 ⟨rfl,rfl⟩
        clear HDk
        go_wp2
        go_ret
        exact⟨uh HK6,.inr ⟨_,i+k,by rw[uh HV,uh HF],by first | rfl | (congr 2; go_num),by omega,hsz,uh R6⟩⟩
      ·obtain rfl:k=9:=by omega
       have HF:=hide ((uh hrun).fin (by omega) hz2 (.inl rfl))
       go_wp2
       go_ret
       exact⟨uh HK,.inr ⟨_,i+9,by rw[uh HV,uh HF],by first | rfl | (congr 2; go_num),by omega,hsz,uh hr⟩⟩
end Go.Proofs.YtkjcgkfejdogbaaGreatDoor
