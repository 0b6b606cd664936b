import Derived.Test.YtekpghcckdjnhaaGreatDoorBa4
import Derived.Test.YtekpghcckdjnhaaGreatDoorBa17
set_option maxRecDepth 100000
set_option maxHeartbeats 8000000
namespace Go.Proofs.YtekpghcckdjnhaaGreatDoor
open Go.RowKit Go.Proofs.Tryz
theorem zl7 (w:World) (n B:Nat) : Below B w (w.drewN n):=⟨rfl,rfl,rfl,ye _,fun _ _=>rfl⟩
theorem zg3 (l:List UInt8) : ((zar l).getD []).length<=l.length:=by
 cases l with
 | nil=>simp[zar]
 | cons c r=>
  rw[zar]; split
  ·unfold ziA
   have h1:∀ (qs:List (List UInt8)),((qs.mapM zau).getD []).length<=qs.length:=by
    intro qs
    induction qs with
    | nil=>simp
    | cons q qs ih=>
     rw[zeq]
     cases zau q with
     | none=>simp
     | some t=>
      cases hq:List.mapM zau qs with
      | none=>simp
      | some ts=>rw[hq] at ih; simp at ih ⊢; omega
   have h2:∀ (l:List UInt8),(zaV l).length<=l.length+1:=by
    intro l
    induction l with
    | nil=>simp[zaV]
    | cons c r ih=>
     by_cases hc:c.toNat=47
     ·rw[zc5 r hc]; simp; omega
     ·cases hp:zaV r with
      | nil=>exact absurd hp (ze8 r)
      | cons q qs=>rw[zcE hc hp]; rw[hp] at ih; simp at ih ⊢; omega
   have:=h1 (zaV r); have:=h2 r; simp; omega
  ·simp
theorem zl8 (s:ByteArray) : ∀ (f pos:Nat),s.size<=pos+f->Lib.validD (s.data.toList.drop pos)=true->zdb s f pos=qs (s.data.toList.drop pos)
 | 0,pos,h,_=>by rw[zeo s pos (by omega)]; rfl
 | f+1,pos,h,hv=>by
  rw[zdb]
  by_cases hp:pos < s.size
  ·rw[yg hp]
   have hr:¬ rl s pos=0:=fun e=>by rw[zhu s pos hp e] at hv; cases hv
   have hv2:=hv
   rw[zgD s pos hp hr] at hv2
   by_cases h8:s[pos].toNat < 128
   ·have ed:=decode_ascii s pos hp h8
    have e1:rl s pos=1:=by unfold rl; rw[zja (by rw[zas s pos hp]; exact h8)]
    rw[e1] at hv2
    rw[ed]
    have ih:=zl8 s f (pos+1) (by omega) hv2
    show pc s[pos].toNat++zdb s f (pos+1)=_
    rw[ih,zig h8,show UInt8.ofNat s[pos].toNat=s[pos] from UInt8.ofNat_toNat,zax s pos hp]
    rfl
   ·obtain⟨g1,g2,g3,g4⟩:=zcJ s pos hp hr h8
    have ih:=zl8 s f (pos+rl s pos) (by omega) hv2
    rw[g4,ih]
    have ep:pc (Utf8.decode s pos).1=Lib.encodeRune ((Utf8.decode s pos).1:Nat):=by unfold pc; rw[yf (by omega)]
    rw[ep,g1]
    have hsplit:=(List.take_append_drop (rl s pos) (s.data.toList.drop pos)).symm
    rw[List.drop_drop] at hsplit
    conv=>rhs; rw[hsplit]
    rw[zpK,zl0 _ g2]
  ·rw[yf hp,zeo s pos hp]; rfl
theorem zu0 (s:ByteArray) (h:Lib.validD s.data.toList=true) : rs s=qs s.data.toList:=by
 have:=zl8 s s.size 0 (by omega) (by simpa using h)
 simpa [rs] using this
theorem ziF (s:ByteArray) (w:World) (hML:ML w) (hsz:s.size<=1048576) :
  Calls prog 101 #[.string s] w fun e w'=>e = .returned (.bool (zar s.data.toList).isSome)/\Below w.heap.size w w':=by
 have HT:=zab (zdy s w hML hsz)
 clear hML
 generalize (zar s.data.toList).isSome=z at *
 go_enter func101,ntmps101
 go_wp2_with fail
 refine (uh HT).mono ?_
 rintro e w1 ⟨v0,rfl,o1,b1⟩
 have HB:=zab b1
 clear HT o1 b1
 go_wp2
 go_ret
 exact⟨rfl,uh HB⟩
end Go.Proofs.YtekpghcckdjnhaaGreatDoor
