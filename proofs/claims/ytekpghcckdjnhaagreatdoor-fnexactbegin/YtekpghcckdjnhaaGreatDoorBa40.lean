import Derived.Test.YtekpghcckdjnhaaGreatDoorBa20
import Derived.Test.YtekpghcckdjnhaaGreatDoorBa38
import Derived.Test.YtekpghcckdjnhaaGreatDoorBa39
set_option maxRecDepth 100000
set_option maxHeartbeats 8000000
namespace Go.Proofs.YtekpghcckdjnhaaGreatDoor
open Go.RowKit Go.Proofs.Tryz
theorem zhv {v:JV} (hok:okV v) (htw:twV v=false) (key:List UInt8) : ((zbm v key).getD []).length<=(ct v).length:=by
 unfold zbm
 cases h:zal v key with
 | none=>exact yt _
 | some u=>
  obtain⟨_,_,h3,_⟩:=zbG h hok htw
  show ((zsc u).getD []).length<=_
  cases u with
  | str l=>
   have h4:=zcO l
   have h5:ct (.str l)=quoted l:=rfl
   rw[h5] at h3
   show l.length<=_
   omega
  | _=>exact yt _
theorem zs5 {w:World} {S:Nat->Prop} {a:JV} {v:Value} (h:Rep w S a v) : ∀ X:World,(Instr.typeAssert v 66 229 true).run prog X = .ok (.tuple #[.string (zac ((zsc a).getD [])),.bool (zsc a).isSome]) X:=by
 intro X
 cases a with
 | nul=>rw[Rep] at h; subst h; kernel_rfl
 | tt=>rw[Rep] at h; subst h; kernel_rfl
 | ff=>rw[Rep] at h; subst h; kernel_rfl
 | num l=>rw[Rep] at h; obtain⟨z,rfl,_⟩:=h; kernel_rfl
 | str l=>rw[Rep] at h; subst h; kernel_rfl
 | arr l=>rw[Rep] at h; obtain⟨ab,sv,xs,rfl,_⟩:=h; kernel_rfl
 | obj m=>rw[Rep] at h; obtain⟨ob,b,nn,xs,rfl,_⟩:=h; kernel_rfl
theorem zdi (v:JV) (htw:twV v=false) (t:List UInt8) (ht:t.length<=1048576) (ty:TypeId) (p:Value) (w:World) (S:Nat->Prop) (h:Rep w S v (.iface ty p)) :
  Calls prog 132 #[.iface ty p,.string (zac t)] w fun e w'=>e = .returned (.tuple #[.string (zac ((zbm v t).getD [])),.bool (zbm v t).isSome])/\w=w':=by
 have HC:=zab (zbE v htw t ht ty p w S h)
 clear h htw
 have HS:Hid (zbm v t=(zal v t).bind zsc):=rfl
 generalize zbm v t=sm at *
 go_enter func132,ntmps132
 go_wp2_with fail
 refine (uh HC).mono ?_
 rintro e w2 ⟨rfl,⟨x,rfl,hn⟩ | ⟨x,u,rfl,hu,hr⟩⟩
 ·obtain rfl:sm=none:=by rw[uh HS,hn]; rfl
  clear HC hn
  go_wp2
  go_ret2
  exact⟨rfl,rfl⟩
 ·obtain rfl:sm=zsc u:=by rw[uh HS,hu]; rfl
  have ha:=zs5 hr
  obtain⟨t1,q1,rfl⟩:=za8 hr
  clear HC hu hr HS
  go_wp2
  go_ret2
  exact⟨rfl,rfl⟩
theorem zfn (v:JV) (hok:okV v) (htw:twV v=false) (hl:(ct v).length<=1000000) (t:List UInt8) (ht:t.length<=1048576) (ty:TypeId) (p:Value) (w:World) (S:Nat->Prop) (h:Rep w S v (.iface ty p)) (hML:ML w) :
  Calls prog 135 #[.iface ty p,.string (zac t)] w fun e w'=>e = .returned (.tuple #[.string (zac ((zbm v t).getD [])),.bool ((zbm v t).isSome && (zar ((zbm v t).getD [])).isSome)])/\Below w.heap.size w w':=by
 have HS:=zab (zdi v htw t ht ty p w S h)
 have hlen:(zac ((zbm v t).getD [])).size<=1048576:=by rw[zaf]; have:=zhv hok htw t; omega
 have HP:=zab (ziF (zac ((zbm v t).getD [])) w hML hlen)
 rw[zad] at HP
 clear h htw hok hl hML hlen
 cases hsm:zbm v t with
 | none=>
  rw[hsm] at HS
  clear hsm HP
  go_enter func135,ntmps135
  go_wp2_with fail
  refine (uh HS).mono ?_
  rintro e w2 ⟨rfl,rfl⟩
  clear HS
  go_wp2
  go_ret2
  exact⟨rfl,yH _ _⟩
 | some l=>
  rw[hsm] at HS HP
  clear hsm
  go_enter func135,ntmps135
  go_wp2_with fail
  refine (uh HS).mono ?_
  rintro e w2 ⟨rfl,rfl⟩
  clear HS
  go_wp2_with fail
  refine (uh HP).mono ?_
  rintro e w3 ⟨rfl,b3⟩
  have HB:=zab b3
  clear HP b3
  go_wp2
  go_ret2
  exact⟨by simp,uh HB⟩
theorem zoW (a:JV) (ty:TypeId) (p:Value) (w:World) (S:Nat->Prop) (h:Rep w S a (.iface ty p)) (hn:kd a≠5) :
  Calls prog 102 #[.iface ty p] w fun e w'=>e = .returned (.tuple #[.slice none 0 0,.bool false])/\w=w':=by
 have ha:=zs4 h hn
 clear h hn
 go_enter func102,ntmps102
 go_wp2
 go_ret2
 exact⟨rfl,rfl⟩
theorem zmy (ab:Nat) (sv:Value) (w:World) (hg:w.heap[ab]?=some (.cells #[sv] 198 (0,0))) :
  Calls prog 102 #[.iface 195 (.pointer (some ⟨ab,0,none⟩))] w fun e w'=>e = .returned (.tuple #[sv,.bool true])/\w=w':=by
 have ha:=zws ⟨ab,0,none⟩
 have hc:w.cell? ⟨ab,0,none⟩=some sv:=yF hg 0
 clear hg
 go_enter func102,ntmps102
 go_wp2
 go_ret2
 exact⟨rfl,rfl⟩
end Go.Proofs.YtekpghcckdjnhaaGreatDoor
namespace Go.Proofs.YtekpghcckdjnhaaGreatDoor
open Go.RowKit Go.Sort Go.Proofs.Tryz
def zub (s:ByteArray) (w:World) (e:Ending) (w':World) : Prop:=
 Below w.heap.size w w'/\(zbp s=false->e = .returned (.tuple #[.nilIface,.bool false])) /\
 (zbp s=true->∃ (v:JV) (t:TypeId) (p:Value),zaZ s = .inr v/\zac (ct v)=s/\e = .returned (.tuple #[.iface t p,.bool true])/\Rep w' (fun k=>w.heap.size<=k/\k < w'.heap.size) v (.iface t p))
theorem zs6 {s:ByteArray} {v:JV} (h:zaZ s = .inr v) (hb:zbp s=false) : ((zac (ct v)).toList == s.toList)=false:=by
 unfold zbp at hb
 rw[h] at hb
 exact hb
theorem zeQ (s:ByteArray) (w:World) (hT:zb2 w.heap.size w) (hE:zhj w.heap.size w) (hP:zjs w.heap.size w) (hz:s.size<=9223372036854775807) :
  Calls prog 53 #[.string s] w (zub s w):=by
 have HF:=zab (zfm s w hT hE hP hz)
 have HP:=zab hP
 clear hT hE hP
 cases hr:zaZ s with
 | inl c=>
  obtain⟨c1,c2⟩:=zfG hr
  have hg:zbp s=false:=by unfold zbp; rw[hr]
  rw[hr] at HF
  have t1:((c:Int) == 0)=false:=by simp; omega
  have t2:((c:Int) != 0)=true:=by simp; omega
  have t3:¬ (c:Int)=0:=by omega
  have t4:¬ c=0:=by omega
  have HG:=zab hg
  clear hr hg
  go_enter func53,ntmps53
  go_wp2_with fail
  refine (uh HF).mono ?_
  rintro e w1 ⟨b1,rfl⟩
  clear HF
  go_wp2
  go_ret2
  exact⟨b1,fun _=>rfl,fun h=>by rw[uh HG] at h; cases h⟩
 | inr v=>
  obtain⟨hs,hd,htw,_,_,_⟩:=zi2 hr
  obtain⟨hok,hcn,hln⟩:=zfF hd
  have HR:=zab hr
  rw[hr] at HF
  clear hr hd
  go_enter func53,ntmps53
  go_wp2_with fail
  refine (uh HF).mono ?_
  rintro e w1 ⟨b1,t,p,rfl,rep⟩
  have HREP:=zab rep
  have HC:=zab (zcj v hok htw t p w1 _ rep (fun k hk=>hk.2) (((uh HP).next b1 (ye _)).more b1.size) (by omega))
  clear HF rep hok htw
  have HB1:=zab b1
  clear b1
  cases hg:zbp s with
  | true=>
   have HG:=zab hg
   obtain⟨v',e1,e2⟩:=zkq.1 hg
   rw[uh HR] at e1
   injection e1 with e1
   subst e1
   rw[e2] at HC
   have HE:=zab e2
   clear hg e2
   go_wp2_with fail
   refine (uh HC).mono ?_
   rintro e w2 ⟨rfl,b2⟩
   have HB2:=zab b2
   clear HC b2
   go_wp2
   go_ret2
   refine⟨zaa (uh HB1) (uh HB2),fun h=>(by rw[uh HG] at h; cases h),fun _=>⟨v,t,p,uh HR,uh HE,rfl,?_⟩⟩
   exact Rep.keep (fun k hk=>(uh HB2).block k hk.2) (fun k hk=>⟨hk.1,yE hk.2 (uh HB2).size⟩) _ _ (uh HREP)
  | false=>
   have HG:=zab hg
   have tne:=zs6 (uh HR) hg
   generalize zac (ct v)=cv at *
   clear hg
   go_wp2_with fail
   refine (uh HC).mono ?_
   rintro e w2 ⟨rfl,b2⟩
   have HB2:=zab b2
   clear HC b2
   go_wp2
   go_ret2
   exact⟨zaa (uh HB1) (uh HB2),fun _=>rfl,fun h=>by rw[uh HG] at h; cases h⟩
end Go.Proofs.YtekpghcckdjnhaaGreatDoor
