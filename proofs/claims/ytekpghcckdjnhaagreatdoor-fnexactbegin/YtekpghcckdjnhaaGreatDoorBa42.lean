import Derived.Test.YtekpghcckdjnhaaGreatDoorBa15
import Derived.Test.YtekpghcckdjnhaaGreatDoorBa18
set_option maxRecDepth 100000
set_option maxHeartbeats 8000000
namespace Go.Proofs.YtekpghcckdjnhaaGreatDoor
open Go.RowKit Go.Proofs.Tryz
theorem zyh (a b:ByteArray) : Op.bytesLess a.toList b.toList=decide (a.data.toList < b.data.toList):=by
 rw[bytesLess_eq,ByteArray.toList_eq,ByteArray.toList_eq]
theorem zgw (v:Value) (ss:List ByteArray) (bl:List Nat) (w:World) (h:zmc w v ss bl) (hML:ML w) (hp:∀ s∈ss,s.size<=1048576) :
  Calls prog 55 #[v] w fun e w'=>e = .returned (.bool (zbw ss))/\Below w.heap.size w w':=by
 have hln:ss.length<=9223372036854775807:=by have:=h.len; unfold maxLen at this; omega
 obtain⟨xa,xc,rfl,hxf,hxa⟩:=h.form
 clear hxf
 have H:=zab h
 have HXA:=zab hxa
 have HML:=zab hML
 clear h hxa hML
 by_cases h1:1000 < ss.length
 ·have HZ:Hid (zbw ss=false):=zfW (by rintro⟨h,_⟩; omega)
  have t1:(1000:Int) < (ss.length:Int):=by omega
  go_enter func55,ntmps55
  go_wp2
  go_ret
  exact⟨by rw[uh HZ]; rfl,yH _ _⟩
 ·have t1:¬ (1000:Int) < (ss.length:Int):=by omega
  go_enter func55,ntmps55
  go_wp2
  go_loopw [10] (fun i wr=>∃ k:Nat,k<=ss.length/\i = .int .i64 k/\Below w.heap.size w wr/\(∀ j (h:j+1 < ss.length),j+1 < k->ss[j].data.toList < ss[j+1].data.toList)/\∀ j (h:j < ss.length),j < k->(zar ss[j].data.toList).isSome=true) (fun i _=>ss.length - (intOf i).toNat)
  case atStart=>exact⟨0,yt _,rfl,yH _ _,fun j _ h=>by omega,fun j _ h=>by omega⟩
  case round=>
   obtain⟨k,hk,rfl,hb,hup,hall⟩:=hrel
   have HALL:=zab hall
   have HUP:=zab hup
   have HBR:=zab hb
   by_cases hlt:k < ss.length
   ·have hltI:(k:Int) < (ss.length:Int):=by omega
    have row:=(zfe.1 ((uh H).below hb)).1
    obtain⟨gt,rfl⟩:=uh HXA (by omega)
    have ck:∀ j (hj:j < ss.length),wr.cell? ⟨gt,j,none⟩=some (.string ss[j]):=fun j hj=>by
     rw[row.cellAt j (by simpa using hj),List.getElem?_map,yx hj]; rfl
    have HCK:=zab ck
    have gl:gt < wr.heap.size:=yJ _ _ (ck k hlt)
    have ck1:=ck k hlt
    have HP:Hid (∀ wx,Below wr.heap.size wr wx->Calls prog 101 #[.string ss[k]] wx fun e w'=>e = .returned (.bool (zar ss[k].data.toList).isSome)/\Below wx.heap.size wx w'):=fun wx hx=>ziF ss[k] wx ((uh HML).below (zaa (uh HBR) hx)) (hp ss[k] (yr hlt))
    clear hup hall hb row ck
    cases hpk:(zar ss[k].data.toList).isSome with
    | false=>
     rw[hpk] at HP
     have HZ:Hid (zbw ss=false):=zfW (by rintro⟨_,_,h⟩; rw[h k hlt] at hpk; cases hpk)
     generalize ss[k]=sk at *
     clear hpk
     go_wp2_with fail
     refine (uh HP _ (yH _ _)).mono ?_
     rintro e w2 ⟨rfl,b2⟩
     have HB2:=zab (zaa (uh HBR) b2)
     clear b2 HP ck1
     go_wp2
     go_ret
     exact⟨by rw[uh HZ]; rfl,uh HB2⟩
    | true=>
     rw[hpk] at HP
     have HALL2:Hid (∀ j (h:j < ss.length),j < k+1->(zar ss[j].data.toList).isSome=true):=fun j h hj=>by
      by_cases e:j=k
      ·subst e; exact hpk
      ·exact uh HALL j h (by omega)
     clear hpk
     by_cases hk0:k=0
     ·subst hk0
      have HUP2:Hid (∀ j (h:j+1 < ss.length),j+1 < 0+1->ss[j].data.toList < ss[j+1].data.toList):=fun j _ hj=>by omega
      generalize ss[0]=sk at *
      go_wp2_with fail
      refine (uh HP _ (yH _ _)).mono ?_
      rintro e w2 ⟨rfl,b2⟩
      have HB2:=zab (zaa (uh HBR) b2)
      clear b2 HP ck1
      go_wp2
      go_roundw
      case rel=>exact⟨1,by omega,by go_num,uh HB2,uh HUP2,uh HALL2⟩
      case measure=>simp[intOf]; omega
     ·have hk0I:(0:Int) < (k:Int):=by omega
      have ckp:wr.cell? ⟨gt,k - 1,none⟩=some (.string ss[k - 1]):=uh HCK (k - 1) (by omega)
      have hls:=zyh ss[k - 1] ss[k]
      have hkI:((k - 1:Nat) : Int)=(k:Int) - 1:=by omega
      have hkl:k - 1 < ss.length:=by omega
      by_cases hlo:ss[k - 1].data.toList < ss[k].data.toList
      ·rw[yj hlo] at hls
       have HUP2:Hid (∀ j (h:j+1 < ss.length),j+1 < k+1->ss[j].data.toList < ss[j+1].data.toList):=fun j h hj=>by
        by_cases e:j+1=k
        ·subst e; exact hlo
        ·exact uh HUP j h (by omega)
       clear hlo
       generalize ss[k]=sk at *
       generalize ss[k - 1]=sp at *
       go_wp2_with fail
       refine (uh HP _ (yH _ _)).mono ?_
       rintro e w2 ⟨rfl,b2⟩
       have HB2:=zab (zaa (uh HBR) b2)
       have ckp2:=(b2.cell (p:=⟨gt,k - 1,none⟩) gl).trans ckp
       clear b2 HP ck1 ckp
       go_wp2
       go_roundw
       case rel=>exact⟨k+1,by omega,by go_num,uh HB2,uh HUP2,uh HALL2⟩
       case measure=>simp[intOf]; omega
      ·rw[yk hlo] at hls
       have HZ:Hid (zbw ss=false):=zfW (by
        rintro⟨_,h,_⟩
        have:=h (k - 1) (by omega)
        simp only[show k - 1+1=k by omega] at this
        exact hlo this)
       clear hlo
       generalize ss[k]=sk at *
       generalize ss[k - 1]=sp at *
       go_wp2_with fail
       refine (uh HP _ (yH _ _)).mono ?_
       rintro e w2 ⟨rfl,b2⟩
       have HB2:=zab (zaa (uh HBR) b2)
       have ckp2:=(b2.cell (p:=⟨gt,k - 1,none⟩) gl).trans ckp
       clear b2 HP ck1 ckp
       go_wp2
       go_ret
       exact⟨by rw[uh HZ]; rfl,uh HB2⟩
   ·have HZ:Hid (zbw ss=true):=zg1.2 ⟨by omega,fun j h=>hup j h (by omega),fun j h=>hall j h (by omega)⟩
    clear hup hall hb
    go_wp2
    go_ret
    exact⟨by rw[uh HZ]; rfl,uh HBR⟩
theorem zhw (no:Int) (w:World) :
  Calls prog 54 #[.pointer none,.int .i64 no] w fun e w'=>e = .returned (.bool (decide (0<=no) && decide (no<=1000000)))/\Below w.heap.size w w':=by
 by_cases h0:0<=no
 ·have t0:decide (0<=no)=true:=yj h0
  go_enter func54,ntmps54
  go_wp2
  go_ret
  exact⟨by simp[h0],yH _ _⟩
 ·have t0:decide (0<=no)=false:=yk h0
  go_enter func54,ntmps54
  go_wp2
  go_ret
  exact⟨by simp,yH _ _⟩
theorem zhx (b:Nat) (n no:Int) (w:World) (hc:w.cell? ⟨b,0,none⟩=some (.int .i64 n)) (h0:0<=n) (h1:n<=2000000) :
  Calls prog 54 #[.pointer (some ⟨b,0,none⟩),.int .i64 no] w fun e w'=>e = .returned (.bool (no == n+1))/\Below w.heap.size w w':=by
 go_enter func54,ntmps54
 go_wp2
 go_ret
 exact⟨rfl,yH _ _⟩
end Go.Proofs.YtekpghcckdjnhaaGreatDoor
