import Derived.Test.YtocnekbedcnmgaaGreatDoorBa5
import Derived.Test.YtocnekbedcnmgaaGreatDoorBa33
import Derived.Test.YtocnekbedcnmgaaGreatDoorBa34
import Derived.Test.YtocnekbedcnmgaaGreatDoorBa4
import Derived.Test.YtocnekbedcnmgaaGreatDoorBa30
import Derived.Test.YtocnekbedcnmgaaGreatDoorBa11
import Derived.Test.YtocnekbedcnmgaaGreatDoorBa12
import Derived.BigQuiet
set_option maxRecDepth 100000
set_option maxHeartbeats 8000000
namespace Go.Proofs.YtocnekbedcnmgaaGreatDoor
open Go.RowKit
def RPost (w:World) (o:Sum Nat JV) (e:Ending) (w':World) : Prop:=
 Below w.heap.size w w'∧match o with
 | .inl c=>e = .returned (.tuple #[.nilIface,.int .i64 c])
 | .inr v=>∃ (t:TypeId) (p:Value),e = .returned (.tuple #[.iface t p,.int .i64 0])∧Rep w' (fun k=>w.heap.size≤k∧k < w'.heap.size) v (.iface t p)
theorem readText_walk (s:ByteArray) (w:World) (hT:TabsB w.heap.size w) (hE:ErrB w.heap.size w) (hP:PowB w.heap.size w) (hz:s.size≤9223372036854775807) :
  Calls Tryz.prog 37 #[.string s] w (RPost w (readR s)):=by
 have hmf:∀ (fn:Fn) (first cap:Array Value) (w:World),(Instr.makeFunc fn first cap).run Tryz.prog w = .ok (.func fn first cap) w:=fun _ _ _ _=>rfl
 by_cases h0:20000 < s.size
 ·have tl:((20000:Int) < (s.size:Int))=True:=eq_true (by omega)
  have HN:Hid (readR s = .inl 1):=by show _=_; rw[readR,if_pos h0]
  clear hT hE hP h0
  go_enter Tryz.func37,Tryz.ntmps37
  go_wp2
  go_ret2
  exact⟨Below.refl _ _,by rw[uh HN]; rfl⟩
 ·have tl:((20000:Int) < (s.size:Int))=False:=eq_false (by omega)
  have HF:=hide (fitsText_walk s w (by omega) hT hE)
  have HN0:Hid (readR s=match docR s with
   | none=>.inl 2
   | some v=>if bigV v then .inl 3 else if twV v then .inl 4 else if 100 < depV v∨3000 < cntV v then .inl 5 else .inr v):=by show _=_; exact (show readR s=_ from by unfold readR; exact if_neg h0).trans (by cases docR s <;> rfl)
  cases hd:docR s with
  | none=>
   rw[hd] at HF HN0
   clear hT hE hP h0 hd
   go_enter Tryz.func37,Tryz.ntmps37
   go_wp2_with fail
   refine (uh HF).mono ?_
   rintro e w1 ⟨b1,hs1,rfl⟩
   clear HF
   go_wp2
   go_ret2
   exact⟨b1,by rw[uh HN0]; rfl⟩
  | some v=>
   obtain⟨hok,hcn,hln⟩:=doc_facts hd
   have hdc:=(dep_cnt v).1
   have HP:=hide hP
   have hz2:s.size≤20000:=by omega
   rw[hd] at HF HN0
   clear hT hE hP h0 hd
   go_enter Tryz.func37,Tryz.ntmps37
   go_wp2_with fail
   refine (uh HF).mono ?_
   rintro e w1 ⟨b1,hs1,t,p,rfl,v1,p1,r1,rep1⟩
   have cv:=v1.cell
   have cp:=p1.cell
   have cb:=r1.big
   have ct:=r1.twice
   have V1:=hide v1
   have REP:=hide rep1
   clear HF v1 p1 r1 rep1
   cases hb:bigV v with
   | true=>
    rw[hb] at cb
    rw[hb] at HN0
    clear hb
    go_wp2
    go_ret2
    exact⟨b1,by rw[uh HN0]; rfl⟩
   | false=>
    rw[hb] at cb HN0
    cases ht:twV v with
    | true=>
     rw[ht] at ct HN0
     clear hb ht
     go_wp2
     go_ret2
     exact⟨b1,by rw[uh HN0]; rfl⟩
    | false=>
     rw[ht] at ct HN0
     have REP1:=hide (uh REP hb ht)
     have HC:=hide (sizeV v hok ht w1 _ t p (uh REP1) (fun k hk=>hk.2) (((uh HP).next b1 (Nat.le_refl _)).more b1.size) (by omega) (by omega) (by omega))
     clear hb ht REP hok
     go_wp2_with fail
     refine (uh HC).mono ?_
     rintro e w2 ⟨rfl,b2⟩
     have b3:Below w2.heap.size w2 (w2.alloc (szB (depV v) (cntV v) (Go.Proofs.YtocnekbedcnmgaaGreatDoor.ct v).length)):=(Below.refl _ _).alloc (Nat.le_refl _) _
     have cv2:=(((uh V1).below b2).below b3).cell
     have B2:=hide (below_next (below_next b1 b2) b3)
     have Q2:Hid (Rep (w2.alloc (szB (depV v) (cntV v) (Go.Proofs.YtocnekbedcnmgaaGreatDoor.ct v).length)) (fun k=>w.heap.size≤k∧k < (w2.alloc (szB (depV v) (cntV v) (Go.Proofs.YtocnekbedcnmgaaGreatDoor.ct v).length)).heap.size) v (.iface t p)):=by
      have hs2:=b2.size
      have hs3:=b3.size
      exact Rep.keep (w:=w1) (S:=fun k=>w.heap.size+4≤k∧k < w1.heap.size) (fun k hk=>(b3.block k (by have:=hk.2; omega)).trans (b2.block k hk.2)) (fun k hk=>⟨by have:=hk.1; omega,by have:=hk.2; omega⟩) v _ (uh REP1)
     clear HC cv cp cb ct V1 REP1 b3
     simp only[szV]
     by_cases g1:100 < depV v
     ·have t1:((100:Int) < (depV v:Int))=True:=eq_true (by omega)
      have HN:Hid (readR s = .inl 5):=by show _=_; rw[uh HN0]; simp[g1]
      clear HN0 g1
      go_wp2
      go_ret2
      exact⟨uh B2,by rw[uh HN]; rfl⟩
     ·have t1:((100:Int) < (depV v:Int))=False:=eq_false (by omega)
      by_cases g2:3000 < cntV v
      ·have t2:((3000:Int) < (cntV v:Int))=True:=eq_true (by omega)
       have HN:Hid (readR s = .inl 5):=by show _=_; rw[uh HN0]; simp[g2]
       clear HN0 g1 g2
       go_wp2
       go_ret2
       exact⟨uh B2,by rw[uh HN]; rfl⟩
      ·have t2:((3000:Int) < (cntV v:Int))=False:=eq_false (by omega)
       have HN:Hid (readR s = .inr v):=by show _=_; rw[uh HN0]; simp[g1,g2]
       clear HN0 g1 g2
       go_wp2
       go_ret2
       exact⟨uh B2,by rw[uh HN]; exact⟨t,p,rfl,uh Q2⟩⟩
end Go.Proofs.YtocnekbedcnmgaaGreatDoor
namespace Go.Proofs.YtocnekbedcnmgaaGreatDoor
open Go.RowKit Go.Sort
theorem find_key {m:JM} {t:List UInt8} (h:(m.toL.find? fun q=>q.1 == t)=none) : ∀ q∈m.toL,q.1≠t:=fun q hq e=>by
 have:=List.find?_eq_none.1 h q hq
 simp[e] at this
theorem implChild_walk (v:JV) (htw:twV v=false) (t:List UInt8) (ht:t.length≤1048576) (ty:TypeId) (p:Value) (w:World) (S:Nat→Prop) (h:Rep w S v (.iface ty p)) :
  Calls Tryz.prog 91 #[.iface ty p,.string (strOf t)] w fun e w'=>w=w'∧((∃ x,e = .returned (.tuple #[x,.bool false])∧childV v t=none)∨∃ (x:Value) (u:JV),e = .returned (.tuple #[x,.bool true])∧childV v t=some u∧Rep w S u x):=by
 have leaf:(∀ w:World,(Instr.typeAssert (.iface ty p) 65 117 true).run Tryz.prog w = .ok (.tuple #[.pointer none,.bool false]) w)→(∀ w:World,(Instr.typeAssert (.iface ty p) 65 179 true).run Tryz.prog w = .ok (.tuple #[.pointer none,.bool false]) w)→childV v t=none →
   Calls Tryz.prog 91 #[.iface ty p,.string (strOf t)] w fun e w'=>w=w'∧((∃ x,e = .returned (.tuple #[x,.bool false])∧childV v t=none)∨∃ (x:Value) (u:JV),e = .returned (.tuple #[x,.bool true])∧childV v t=some u∧Rep w S u x):=fun h1 h2 hc=>by
  have HC:=hide hc
  clear hc h
  generalize strOf t=st at *
  go_enter Tryz.func91,Tryz.ntmps91
  go_wp2
  go_ret2
  exact⟨rfl,.inl ⟨_,rfl,uh HC⟩⟩
 cases v with
 | nul=>rw[Rep] at h; injection h with a b; subst a; subst b; exact leaf (fun _=>by kernel_rfl) (fun _=>by kernel_rfl) rfl
 | tt=>rw[Rep] at h; injection h with a b; subst a; subst b; exact leaf (fun _=>by kernel_rfl) (fun _=>by kernel_rfl) rfl
 | ff=>rw[Rep] at h; injection h with a b; subst a; subst b; exact leaf (fun _=>by kernel_rfl) (fun _=>by kernel_rfl) rfl
 | num l=>rw[Rep] at h; obtain⟨z,h,_⟩:=h; injection h with a b; subst a; subst b; exact leaf (fun _=>by kernel_rfl) (fun _=>by kernel_rfl) rfl
 | str l=>rw[Rep] at h; injection h with a b; subst a; subst b; exact leaf (fun _=>by kernel_rfl) (fun _=>by kernel_rfl) rfl
 | arr l=>
  clear leaf
  rw[Rep] at h
  obtain⟨ab,sv,xs,h,hSab,hab,hrow,hrl⟩:=h
  injection h with h1 h2; subst h1; subst h2
  obtain⟨a,g,cap,rfl,hadr,hcell⟩:=row_shape hrow
  obtain⟨hxl,hrep⟩:=repL_at l xs hrl
  have hc0:w.cell? ⟨ab,0,none⟩=some (.slice a xs.length cap):=by rw[Lib.cell_of_heap hab]; rfl
  have t1:∀ w:World,(Instr.typeAssert (.iface 117 (.pointer (some ⟨ab,0,none⟩))) 65 117 true).run Tryz.prog w = .ok (.tuple #[.pointer (some ⟨ab,0,none⟩),.bool true]) w:=fun _=>by kernel_rfl
  have HI:=readIndex_walk (strOf t) w (by rw[strOf_size]; exact ht)
  rw[strOf_toList] at HI
  cases hx:idxT t with
  | none=>
   have e0:idxP t = .tuple #[.int .i64 0,.bool false]:=by unfold idxP; rw[hx]
   rw[e0] at HI
   have HI':=hide HI
   have HC:Hid (childV (.arr l) t=none):=by show _=_; rw[childV_arr,hx]; rfl
   clear HI e0 hx hrl hrow hrep hcell hadr
   generalize strOf t=st at *
   go_enter Tryz.func91,Tryz.ntmps91
   go_wp2_with fail
   refine (uh HI').mono ?_
   rintro e w1 ⟨rfl,rfl⟩
   clear HI'
   go_wp2
   go_ret2
   exact⟨rfl,.inl ⟨_,rfl,uh HC⟩⟩
  | some i=>
   have e0:idxP t = .tuple #[.int .i64 (i:Int),.bool true]:=by unfold idxP; rw[hx]
   rw[e0] at HI
   have HI':=hide HI
   by_cases hl:i < xs.length
   ·have tl:¬ (xs.length:Int)≤(i:Int):=by omega
    have tl2:decide ((xs.length:Int)≤(i:Int))=false:=decide_eq_false (by omega)
    have hltI:(i:Int) < (xs.length:Int):=by omega
    have hci:=hcell i hl
    obtain rfl:=(hadr (by omega)).1
    have HC:Hid (childV (.arr l) t=some (l.toL[i]'(by omega))∧Rep w S (l.toL[i]'(by omega)) xs[i]):=⟨by rw[childV_arr,hx]; simp[show i < l.toL.length by omega],hrep i hl (by omega)⟩
    clear HI e0 hx hrl hrow hrep hcell hadr
    generalize xs[i]=xi at *
    generalize strOf t=st at *
    go_enter Tryz.func91,Tryz.ntmps91
    go_wp2_with fail
    refine (uh HI').mono ?_
    rintro e w1 ⟨rfl,rfl⟩
    clear HI'
    go_wp2
    go_ret2
    exact⟨rfl,.inr ⟨_,_,rfl,(uh HC).1,(uh HC).2⟩⟩
   ·have tl:(xs.length:Int)≤(i:Int):=by omega
    have tl2:decide ((xs.length:Int)≤(i:Int))=true:=decide_eq_true (by omega)
    have HC:Hid (childV (.arr l) t=none):=by show _=_; rw[childV_arr,hx]; simp; omega
    clear HI e0 hx hrl hrow hrep hcell hadr
    generalize strOf t=st at *
    go_enter Tryz.func91,Tryz.ntmps91
    go_wp2_with fail
    refine (uh HI').mono ?_
    rintro e w1 ⟨rfl,rfl⟩
    clear HI'
    go_wp2
    go_ret2
    exact⟨rfl,.inl ⟨_,rfl,uh HC⟩⟩
 | obj m=>
  clear leaf
  rw[Rep] at h
  obtain⟨ob,mb,nn,xs,h,hSob,hSmb,hob,hown,_,hrm⟩:=h
  injection h with h1 h2; subst h1; subst h2
  obtain⟨hkeys,hrep⟩:=repM_at m xs hrm
  rw[twV] at htw
  have hnd:=(twM_nodup m [] htw).1
  have hnd':(xs.map (·.1)).Nodup:=by rw[hkeys]; exact hnd
  have hc0:w.cell? ⟨ob,0,none⟩=some (.map (some mb)):=by rw[Lib.cell_of_heap hob]; rfl
  have t1:∀ w:World,(Instr.typeAssert (.iface 179 (.pointer (some ⟨ob,0,none⟩))) 65 117 true).run Tryz.prog w = .ok (.tuple #[.pointer none,.bool false]) w:=fun _=>by kernel_rfl
  have t2:∀ w:World,(Instr.typeAssert (.iface 179 (.pointer (some ⟨ob,0,none⟩))) 65 179 true).run Tryz.prog w = .ok (.tuple #[.pointer (some ⟨ob,0,none⟩),.bool true]) w:=fun _=>by kernel_rfl
  obtain⟨xv,hlook,hlast⟩:=map_look hown t (by omega)
  have hhas:=lastV_has t xs
  rw[hkeys] at hhas
  cases hf:m.toL.find? fun q=>q.1 == t with
  | none=>
   have HC:Hid (childV (.obj m) t=none):=by show _=_; rw[childV_obj,hf]; rfl
   have hno:(lastV xs t).isSome=false:=by
    rw[hhas,List.contains_eq_mem,decide_eq_false_iff_not,keysM_map]
    intro hm
    obtain⟨q,hq,e⟩:=List.mem_map.1 hm
    exact find_key hf q hq e
   rw[hno] at hlook
   clear hrm hrep hkeys hnd hnd' hf hhas hno hlast hown htw
   generalize strOf t=st at *
   go_enter Tryz.func91,Tryz.ntmps91
   go_wp2
   go_ret2
   exact⟨rfl,.inl ⟨_,rfl,uh HC⟩⟩
  | some q=>
   have hq:=List.mem_of_find?_eq_some hf
   have hqk:q.1=t:=by have:=List.find?_some hf; simpa using this
   obtain⟨x0,hx0,hr0⟩:=hrep q.1 q.2 hq
   have hl0:=lastV_of xs hnd' hx0
   rw[hqk] at hl0
   have hyes:(lastV xs t).isSome=true:=by rw[hl0]; rfl
   have hxv:x0=xv:=by have:=hlast hyes; rw[hl0] at this; injection this
   subst hxv
   rw[hyes] at hlook
   have HC:Hid (childV (.obj m) t=some q.2∧Rep w S q.2 x0):=⟨by rw[childV_obj,hf]; rfl,hr0⟩
   clear hrm hrep hkeys hnd hnd' hf hhas hyes hlast hown htw hl0 hx0 hr0
   generalize strOf t=st at *
   go_enter Tryz.func91,Tryz.ntmps91
   go_wp2
   go_ret2
   exact⟨rfl,.inr ⟨_,_,rfl,(uh HC).1,(uh HC).2⟩⟩
end Go.Proofs.YtocnekbedcnmgaaGreatDoor
namespace Go.Proofs.YtocnekbedcnmgaaGreatDoor
open Go.RowKit
theorem TabsB.more {B B':Nat} {w:World} (h:TabsB B w) (hB:B≤B') : TabsB B' w:=by
 obtain⟨w0,h1,h2⟩:=h
 exact⟨w0,Nat.le_trans h1 hB,h2⟩
theorem ErrB.more {B B':Nat} {w:World} (h:ErrB B w) (hB:B≤B') : ErrB B' w:=⟨Nat.lt_of_lt_of_le h.1 hB,h.2⟩
theorem tabsUp {w w':World} (h:TabsB w.heap.size w) (hb:Below w.heap.size w w') : TabsB w'.heap.size w':=TabsB.more (TabsB.next h hb (Nat.le_refl _)) hb.size
theorem errUp {w w':World} (h:ErrB w.heap.size w) (hb:Below w.heap.size w w') : ErrB w'.heap.size w':=ErrB.more (ErrB.next h hb (Nat.le_refl _)) hb.size
theorem powUp {w w':World} (h:PowB w.heap.size w) (hb:Below w.heap.size w w') : PowB w'.heap.size w':=(h.next hb (Nat.le_refl _)).more hb.size
structure RdW (w:World) : Prop where
 tab:TabsB w.heap.size w
 err:ErrB w.heap.size w
 pow:PowB w.heap.size w
 ml:ML w
theorem RdW.up {w w':World} (h:RdW w) (hb:Below w.heap.size w w') : RdW w':=⟨tabsUp h.tab hb,errUp h.err hb,powUp h.pow hb,h.ml.below hb⟩
end Go.Proofs.YtocnekbedcnmgaaGreatDoor
