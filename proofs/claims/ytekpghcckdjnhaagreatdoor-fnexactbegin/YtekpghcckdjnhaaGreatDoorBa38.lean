import Derived.Test.YtekpghcckdjnhaaGreatDoorBa36
import Derived.Test.YtekpghcckdjnhaaGreatDoorBa37
import Derived.Test.YtekpghcckdjnhaaGreatDoorBa32
set_option maxRecDepth 100000
set_option maxHeartbeats 8000000
namespace Go.Proofs.YtekpghcckdjnhaaGreatDoor
open Go.RowKit Go.Proofs.Tryz
def zx5 (w:World) (o:Sum Nat JV) (e:Ending) (w':World) : Prop:=
 Below w.heap.size w w'/\match o with
 | .inl c=>e = .returned (.tuple #[.nilIface,.int .i64 c])
 | .inr v=>∃ (t:TypeId) (p:Value),e = .returned (.tuple #[.iface t p,.int .i64 0])/\Rep w' (fun k=>w.heap.size<=k/\k < w'.heap.size) v (.iface t p)
theorem zfm (s:ByteArray) (w:World) (hT:zb2 w.heap.size w) (hE:zhj w.heap.size w) (hP:zjs w.heap.size w) (hz:s.size<=9223372036854775807) :
  Calls prog 99 #[.string s] w (zx5 w (zaZ s)):=by
 have hmf:∀ (fn:Fn) (first cap:Array Value) (w:World),(Instr.makeFunc fn first cap).run prog w = .ok (.func fn first cap) w:=fun _ _ _ _=>rfl
 by_cases h0:20000 < s.size
 ·have tl:((20000:Int) < (s.size:Int))=True:=eq_true (by omega)
  have HN:Hid (zaZ s = .inl 1):=by show _=_; rw[zaZ,yg h0]
  clear hT hE hP h0
  go_enter func99,ntmps99
  go_wp2
  go_ret2
  exact⟨yH _ _,by rw[uh HN]; rfl⟩
 ·have tl:((20000:Int) < (s.size:Int))=False:=yQ (by omega)
  have HF:=zab (zjz s w (by omega) hT hE)
  have HN0:Hid (zaZ s=match zgz s with
   | none=>.inl 2
   | some v=>if zbf v then .inl 3 else if twV v then .inl 4 else if 100 < zaY v∨3000 < zaA v then .inl 5 else .inr v):=by show _=_; exact (show zaZ s=_ from by unfold zaZ; exact yf h0).trans (by cases zgz s <;> rfl)
  cases hd:zgz s with
  | none=>
   rw[hd] at HF HN0
   clear hT hE hP h0 hd
   go_enter func99,ntmps99
   go_wp2_with fail
   refine (uh HF).mono ?_
   rintro e w1 ⟨b1,hs1,rfl⟩
   clear HF
   go_wp2
   go_ret2
   exact⟨b1,by rw[uh HN0]; rfl⟩
  | some v=>
   obtain⟨hok,hcn,hln⟩:=zfF hd
   have hdc:=(zeh v).1
   have HP:=zab hP
   have hz2:s.size<=20000:=by omega
   rw[hd] at HF HN0
   clear hT hE hP h0 hd
   go_enter func99,ntmps99
   go_wp2_with fail
   refine (uh HF).mono ?_
   rintro e w1 ⟨b1,hs1,t,p,rfl,v1,p1,r1,rep1⟩
   have cv:=v1.cell
   have cp:=p1.cell
   have cb:=r1.big
   have ct:=r1.twice
   have V1:=zab v1
   have REP:=zab rep1
   clear HF v1 p1 r1 rep1
   cases hb:zbf v with
   | true=>
    rw[hb] at cb
    rw[hb] at HN0
    clear hb
    go_wp2
    go_ret2
    exact⟨b1,by rw[uh HN0]; rfl⟩
   | false=>
    rw[hb] at cb HN0
    cases ht:twV v with
    | true=>
     rw[ht] at ct HN0
     clear hb ht
     go_wp2
     go_ret2
     exact⟨b1,by rw[uh HN0]; rfl⟩
    | false=>
     rw[ht] at ct HN0
     have REP1:=zab (uh REP hb ht)
     have HC:=zab (zs2 v hok ht w1 _ t p (uh REP1) (fun k hk=>hk.2) (((uh HP).next b1 (ye _)).more b1.size) (by omega) (by omega) (by omega))
     clear hb ht REP hok
     go_wp2_with fail
     refine (uh HC).mono ?_
     rintro e w2 ⟨rfl,b2⟩
     have b3:Below w2.heap.size w2 (w2.alloc (szB (zaY v) (zaA v) (Go.Proofs.YtekpghcckdjnhaaGreatDoor.ct v).length)):=(yH _ _).alloc (ye _) _
     have cv2:=(((uh V1).below b2).below b3).cell
     have B2:=zab (zaa (zaa b1 b2) b3)
     have Q2:Hid (Rep (w2.alloc (szB (zaY v) (zaA v) (Go.Proofs.YtekpghcckdjnhaaGreatDoor.ct v).length)) (fun k=>w.heap.size<=k/\k < (w2.alloc (szB (zaY v) (zaA v) (Go.Proofs.YtekpghcckdjnhaaGreatDoor.ct v).length)).heap.size) v (.iface t p)):=by
      have hs2:=b2.size
      have hs3:=b3.size
      exact Rep.keep (w:=w1) (S:=fun k=>w.heap.size+4<=k/\k < w1.heap.size) (fun k hk=>(b3.block k (by have:=hk.2; omega)).trans (b2.block k hk.2)) (fun k hk=>⟨by have:=hk.1; omega,by have:=hk.2; omega⟩) v _ (uh REP1)
     clear HC cv cp cb ct V1 REP1 b3
     simp only[szV]
     by_cases g1:100 < zaY v
     ·have t1:((100:Int) < (zaY v:Int))=True:=eq_true (by omega)
      have HN:Hid (zaZ s = .inl 5):=by show _=_; rw[uh HN0]; simp[g1]
      clear HN0 g1
      go_wp2
      go_ret2
      exact⟨uh B2,by rw[uh HN]; rfl⟩
     ·have t1:((100:Int) < (zaY v:Int))=False:=yQ (by omega)
      by_cases g2:3000 < zaA v
      ·have t2:((3000:Int) < (zaA v:Int))=True:=eq_true (by omega)
       have HN:Hid (zaZ s = .inl 5):=by show _=_; rw[uh HN0]; simp[g2]
       clear HN0 g1 g2
       go_wp2
       go_ret2
       exact⟨uh B2,by rw[uh HN]; rfl⟩
      ·have t2:((3000:Int) < (zaA v:Int))=False:=yQ (by omega)
       have HN:Hid (zaZ s = .inr v):=by show _=_; rw[uh HN0]; simp[g1,g2]
       clear HN0 g1 g2
       go_wp2
       go_ret2
       exact⟨uh B2,by rw[uh HN]; exact⟨t,p,rfl,uh Q2⟩⟩
end Go.Proofs.YtekpghcckdjnhaaGreatDoor
namespace Go.Proofs.YtekpghcckdjnhaaGreatDoor
open Go.RowKit Go.Sort Go.Proofs.Tryz
theorem zs3 {m:JM} {t:List UInt8} (h:(m.toL.find? fun q=>q.1 == t)=none) : ∀ q∈m.toL,q.1≠t:=fun q hq e=>by
 have:=List.find?_eq_none.1 h q hq
 simp[e] at this
theorem zbE (v:JV) (htw:twV v=false) (t:List UInt8) (ht:t.length<=1048576) (ty:TypeId) (p:Value) (w:World) (S:Nat->Prop) (h:Rep w S v (.iface ty p)) :
  Calls prog 136 #[.iface ty p,.string (zac t)] w fun e w'=>w=w'/\((∃ x,e = .returned (.tuple #[x,.bool false])/\zal v t=none)∨∃ (x:Value) (u:JV),e = .returned (.tuple #[x,.bool true])/\zal v t=some u/\Rep w S u x):=by
 have leaf:(∀ w:World,(Instr.typeAssert (.iface ty p) 66 195 true).run prog w = .ok (.tuple #[.pointer none,.bool false]) w)->(∀ w:World,(Instr.typeAssert (.iface ty p) 66 225 true).run prog w = .ok (.tuple #[.pointer none,.bool false]) w)->zal v t=none ->
   Calls prog 136 #[.iface ty p,.string (zac t)] w fun e w'=>w=w'/\((∃ x,e = .returned (.tuple #[x,.bool false])/\zal v t=none)∨∃ (x:Value) (u:JV),e = .returned (.tuple #[x,.bool true])/\zal v t=some u/\Rep w S u x):=fun h1 h2 hc=>by
  have HC:=zab hc
  clear hc h
  generalize zac t=st at *
  go_enter func136,ntmps136
  go_wp2
  go_ret2
  exact⟨rfl,.inl ⟨_,rfl,uh HC⟩⟩
 cases v with
 | nul=>rw[Rep] at h; injection h with a b; subst a; subst b; exact leaf (fun _=>by kernel_rfl) (fun _=>by kernel_rfl) rfl
 | tt=>rw[Rep] at h; injection h with a b; subst a; subst b; exact leaf (fun _=>by kernel_rfl) (fun _=>by kernel_rfl) rfl
 | ff=>rw[Rep] at h; injection h with a b; subst a; subst b; exact leaf (fun _=>by kernel_rfl) (fun _=>by kernel_rfl) rfl
 | num l=>rw[Rep] at h; obtain⟨z,h,_⟩:=h; injection h with a b; subst a; subst b; exact leaf (fun _=>by kernel_rfl) (fun _=>by kernel_rfl) rfl
 | str l=>rw[Rep] at h; injection h with a b; subst a; subst b; exact leaf (fun _=>by kernel_rfl) (fun _=>by kernel_rfl) rfl
 | arr l=>
  clear leaf
  rw[Rep] at h
  obtain⟨ab,sv,xs,h,hSab,hab,hrow,hrl⟩:=h
  injection h with h1 h2; subst h1; subst h2
  obtain⟨a,g,cap,rfl,hadr,hcell⟩:=zbD hrow
  obtain⟨hxl,hrep⟩:=zbJ l xs hrl
  have hc0:w.cell? ⟨ab,0,none⟩=some (.slice a xs.length cap):=by rw[yF hab]; rfl
  have t1:∀ w:World,(Instr.typeAssert (.iface 195 (.pointer (some ⟨ab,0,none⟩))) 66 195 true).run prog w = .ok (.tuple #[.pointer (some ⟨ab,0,none⟩),.bool true]) w:=fun _=>by kernel_rfl
  have HI:=zck (zac t) w (by rw[zaf]; exact ht)
  rw[zad] at HI
  cases hx:zgh t with
  | none=>
   have e0:zlU t = .tuple #[.int .i64 0,.bool false]:=by unfold zlU; rw[hx]
   rw[e0] at HI
   have HI':=zab HI
   have HC:Hid (zal (.arr l) t=none):=by show _=_; rw[zay,hx]; rfl
   clear HI e0 hx hrl hrow hrep hcell hadr
   generalize zac t=st at *
   go_enter func136,ntmps136
   go_wp2_with fail
   refine (uh HI').mono ?_
   rintro e w1 ⟨rfl,rfl⟩
   clear HI'
   go_wp2
   go_ret2
   exact⟨rfl,.inl ⟨_,rfl,uh HC⟩⟩
  | some i=>
   have e0:zlU t = .tuple #[.int .i64 (i:Int),.bool true]:=by unfold zlU; rw[hx]
   rw[e0] at HI
   have HI':=zab HI
   by_cases hl:i < xs.length
   ·have tl:¬ (xs.length:Int)<=(i:Int):=by omega
    have tl2:decide ((xs.length:Int)<=(i:Int))=false:=yk (by omega)
    have hltI:(i:Int) < (xs.length:Int):=by omega
    have hci:=hcell i hl
    obtain rfl:=(hadr (by omega)).1
    have HC:Hid (zal (.arr l) t=some (l.toL[i]'(by omega))/\Rep w S (l.toL[i]'(by omega)) xs[i]):=⟨by rw[zay,hx]; simp[show i < l.toL.length by omega],hrep i hl (by omega)⟩
    clear HI e0 hx hrl hrow hrep hcell hadr
    generalize xs[i]=xi at *
    generalize zac t=st at *
    go_enter func136,ntmps136
    go_wp2_with fail
    refine (uh HI').mono ?_
    rintro e w1 ⟨rfl,rfl⟩
    clear HI'
    go_wp2
    go_ret2
    exact⟨rfl,.inr ⟨_,_,rfl,(uh HC).1,(uh HC).2⟩⟩
   ·have tl:(xs.length:Int)<=(i:Int):=by omega
    have tl2:decide ((xs.length:Int)<=(i:Int))=true:=yj (by omega)
    have HC:Hid (zal (.arr l) t=none):=by show _=_; rw[zay,hx]; simp; omega
    clear HI e0 hx hrl hrow hrep hcell hadr
    generalize zac t=st at *
    go_enter func136,ntmps136
    go_wp2_with fail
    refine (uh HI').mono ?_
    rintro e w1 ⟨rfl,rfl⟩
    clear HI'
    go_wp2
    go_ret2
    exact⟨rfl,.inl ⟨_,rfl,uh HC⟩⟩
 | obj m=>
  clear leaf
  rw[Rep] at h
  obtain⟨ob,mb,nn,xs,h,hSob,hSmb,hob,hown,_,hrm⟩:=h
  injection h with h1 h2; subst h1; subst h2
  obtain⟨hkeys,hrep⟩:=zcr m xs hrm
  rw[twV] at htw
  have hnd:=(zei m [] htw).1
  have hnd':(xs.map (·.1)).Nodup:=by rw[hkeys]; exact hnd
  have hc0:w.cell? ⟨ob,0,none⟩=some (.map (some mb)):=by rw[yF hob]; rfl
  have t1:∀ w:World,(Instr.typeAssert (.iface 225 (.pointer (some ⟨ob,0,none⟩))) 66 195 true).run prog w = .ok (.tuple #[.pointer none,.bool false]) w:=fun _=>by kernel_rfl
  have t2:∀ w:World,(Instr.typeAssert (.iface 225 (.pointer (some ⟨ob,0,none⟩))) 66 225 true).run prog w = .ok (.tuple #[.pointer (some ⟨ob,0,none⟩),.bool true]) w:=fun _=>by kernel_rfl
  obtain⟨xv,hlook,hlast⟩:=zjj hown t (by omega)
  have hhas:=zg0 t xs
  rw[hkeys] at hhas
  cases hf:m.toL.find? fun q=>q.1 == t with
  | none=>
   have HC:Hid (zal (.obj m) t=none):=by show _=_; rw[zbe,hf]; rfl
   have hno:(zeL xs t).isSome=false:=by
    rw[hhas,List.contains_eq_mem,decide_eq_false_iff_not,zaB]
    intro hm
    obtain⟨q,hq,e⟩:=yO.1 hm
    exact zs3 hf q hq e
   rw[hno] at hlook
   clear hrm hrep hkeys hnd hnd' hf hhas hno hlast hown htw
   generalize zac t=st at *
   go_enter func136,ntmps136
   go_wp2
   go_ret2
   exact⟨rfl,.inl ⟨_,rfl,uh HC⟩⟩
  | some q=>
   have hq:=List.mem_of_find?_eq_some hf
   have hqk:q.1=t:=by have:=List.find?_some hf; simpa using this
   obtain⟨x0,hx0,hr0⟩:=hrep q.1 q.2 hq
   have hl0:=zdC xs hnd' hx0
   rw[hqk] at hl0
   have hyes:(zeL xs t).isSome=true:=by rw[hl0]; rfl
   have hxv:x0=xv:=by have:=hlast hyes; rw[hl0] at this; injection this
   subst hxv
   rw[hyes] at hlook
   have HC:Hid (zal (.obj m) t=some q.2/\Rep w S q.2 x0):=⟨by rw[zbe,hf]; rfl,hr0⟩
   clear hrm hrep hkeys hnd hnd' hf hhas hyes hlast hown htw hl0 hx0 hr0
   generalize zac t=st at *
   go_enter func136,ntmps136
   go_wp2
   go_ret2
   exact⟨rfl,.inr ⟨_,_,rfl,(uh HC).1,(uh HC).2⟩⟩
end Go.Proofs.YtekpghcckdjnhaaGreatDoor
namespace Go.Proofs.YtekpghcckdjnhaaGreatDoor
open Go.RowKit Go.Proofs.Tryz
theorem zb2.more {B B':Nat} {w:World} (h:zb2 B w) (hB:B<=B') : zb2 B' w:=by
 obtain⟨w0,h1,h2⟩:=h
 exact⟨w0,yP h1 hB,h2⟩
theorem zhj.more {B B':Nat} {w:World} (h:zhj B w) (hB:B<=B') : zhj B' w:=⟨yE h.1 hB,h.2⟩
theorem zwr {w w':World} (h:zb2 w.heap.size w) (hb:Below w.heap.size w w') : zb2 w'.heap.size w':=zb2.more (zb2.next h hb (ye _)) hb.size
theorem zx6 {w w':World} (h:zhj w.heap.size w) (hb:Below w.heap.size w w') : zhj w'.heap.size w':=zhj.more (zhj.next h hb (ye _)) hb.size
theorem zx7 {w w':World} (h:zjs w.heap.size w) (hb:Below w.heap.size w w') : zjs w'.heap.size w':=(h.next hb (ye _)).more hb.size
structure RdW (w:World) : Prop where
 tab:zb2 w.heap.size w
 err:zhj w.heap.size w
 pow:zjs w.heap.size w
 ml:ML w
theorem RdW.up {w w':World} (h:RdW w) (hb:Below w.heap.size w w') : RdW w':=⟨zwr h.tab hb,zx6 h.err hb,zx7 h.pow hb,h.ml.below hb⟩
end Go.Proofs.YtekpghcckdjnhaaGreatDoor
