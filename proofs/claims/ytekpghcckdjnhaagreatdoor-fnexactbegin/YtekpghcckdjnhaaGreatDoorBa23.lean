import Derived.Laws.EntriesVeiled
import Derived.Test.YtekpghcckdjnhaaGreatDoorBa13
import Derived.Test.YtekpghcckdjnhaaGreatDoorBa22
set_option maxRecDepth 100000
set_option maxHeartbeats 8000000
namespace Go.Proofs.YtekpghcckdjnhaaGreatDoor
open Go.RowKit Go.Proofs.Tryz
def zd4 (k:Int) : Value:=if k=1 then .func (Fn.func 181) #[] #[] else if k=2 then .func (Fn.func 182) #[] #[] else if k=3 then .func (Fn.func 183) #[] #[] else if k=4 then .func (Fn.func 184) #[] #[] else if k=5 then .func (Fn.func 185) #[] #[] else .func (Fn.func 186) #[] #[]
def shF (k:Int) : Bool:=k == 4
def shP (k:Int) : Bool:=k == 1 || k == 2 || k == 4 || k == 5
def zjn (k:Int) : ByteArray:=zac (zcZ k)
theorem zf3 {w:World} {g:Nat} (hg:w.heap[g]?=some (.cells zba 202 (0,0))) {j:Nat} (hj:j < 6) {k:Int} (hk:k=(j:Int)+1) :
  w.cell? ⟨g,j*7,none⟩=some (.string (zjn k))/\w.cell? ⟨g,j*7+1,none⟩=some (.int .i64 k)/\w.cell? ⟨g,j*7+2,none⟩=some (.bool (zfN k))/\w.cell? ⟨g,j*7+3,none⟩=some (.bool (zc9 k))/\w.cell? ⟨g,j*7+4,none⟩=some (.bool (shF k))/\w.cell? ⟨g,j*7+5,none⟩=some (.bool (shP k))/\w.cell? ⟨g,j*7+6,none⟩=some (zd4 k):=by
 subst hk
 rcases (show j=0∨j=1∨j=2∨j=3∨j=4∨j=5 from by omega) with rfl | rfl | rfl | rfl | rfl | rfl
 all_goals exact⟨yF hg _,yF hg _,yF hg _,yF hg _,yF hg _,yF hg _,yF hg _⟩
def zfh (m:POp) : Obj:=.cells #[.int .i64 m.kind,.string m.path,.string m.src,.string m.val] 95 (0,0)
theorem zkE (ob:Nat) (m:POp) (c0 c2 c3 c4 c5 c6:Value) (z:Int) (w:World) (h:w.heap[ob]?=some (zfh m)) :
  Calls prog 139 #[.agg #[c0,.int .i64 z,c2,c3,c4,c5,c6],.pointer (some ⟨ob,0,none⟩)] w fun e w'=>e = .returned (.bool (z == m.kind))/\Below w.heap.size w w':=by
 have hlt:ob < w.heap.size:=(yB.1 h).1
 have k:∀ o,(w.alloc o).cell? ⟨ob,0,none⟩=some (.int .i64 m.kind):=fun o=>yF (((zag w o).block ob hlt).trans h) 0
 clear h
 go_enter func139,ntmps139
 go_wp2
 go_ret
 exact⟨rfl,zag w _⟩
def zdS (k:Int) : Int:=if 1<=k/\k<=6 then k - 1 else -1
theorem zeO (g ob:Nat) (m:POp) (w:World) (hg:w.heap[g]?=some (.cells zba 202 (0,0))) (h:w.heap[ob]?=some (zfh m)) :
  Calls prog 161 #[.slice (some ⟨g,0,none⟩) 6 6,.func (Fn.func 139) #[] #[.pointer (some ⟨ob,0,none⟩)]] w fun e w'=>e = .returned (.int .i64 (zdS m.kind))/\Below w.heap.size w w':=by
 have HG:=zab hg
 have HO:=zab h
 clear hg h
 go_enter func161,ntmps161
 go_wp2_with fail
 go_loopw [8] (fun i wr=>∃ j:Nat,j<=6/\i = .int .i64 (j:Int)/\Below w.heap.size w wr/\∀ n:Nat,n < j->¬ m.kind=(n:Int)+1) (fun i _=>6 - (intOf i).toNat)
 case atStart=>exact⟨0,by omega,rfl,yH _ _,fun n hn=>by omega⟩
 case round=>
  obtain⟨j,hj,rfl,hb,hn⟩:=hrel
  by_cases hlt:j < 6
  ·have hg:=(hb.block g (yB.1 (uh HG)).1).trans (uh HG)
   have ho:=(hb.block ob (yB.1 (uh HO)).1).trans (uh HO)
   obtain⟨c0,c2,c3,c4,c5,c6,q0,q1,q2,q3,q4,q5,q6⟩:=zvx hg hlt
   have HM:=zab (zkE ob m c0 c2 c3 c4 c5 c6 ((j:Int)+1) wr ho)
   have HN:=zab hn
   clear hg ho hn
   go_wp2_with fail
   refine (uh HM).mono ?_
   rintro e w1 ⟨rfl,b1⟩
   have HB1:=zab (zaa hb b1)
   clear HM b1 hb q0 q1 q2 q3 q4 q5 q6
   by_cases hk:(j:Int)+1=m.kind
   ·have hk1:(((j:Int)+1) == m.kind)=true:=by simpa using hk
    rw[hk1]
    have hv:zdS m.kind=(j:Int):=by unfold zdS; rw[yg (by omega)]; omega
    have HV:=zab hv
    clear hk hk1 hv
    go_wp2
    go_ret
    exact⟨by rw[uh HV]; rfl,uh HB1⟩
   ·have hk1:(((j:Int)+1) == m.kind)=false:=by simpa using hk
    rw[hk1]
    have HNE:Hid (∀ n:Nat,n < j+1->¬ m.kind=(n:Int)+1):=fun n hn e=>by
     by_cases hnj:n=j
     ·subst hnj; exact hk e.symm
     ·exact uh HN n (by omega) e
    clear hk hk1
    go_wp2
    go_roundw
    case rel=>exact⟨j+1,by omega,by go_num,uh HB1,uh HNE⟩
    case measure=>simp[intOf]; omega
  ·have hv:zdS m.kind = -1:=by
    unfold zdS
    rw[yf]
    intro ⟨h1,h2⟩
    exact hn (m.kind - 1).toNat (by omega) (by omega)
   have HV:=zab hv
   clear hv hn
   go_wp2
   go_ret
   exact⟨by rw[uh HV]; rfl,hb⟩
def zoL (k:Int) : Array Value:=#[.string (zjn k),.int .i64 k,.bool (zfN k),.bool (zc9 k),.bool (shF k),.bool (shP k),zd4 k]
def zcw:Array Value:=#[.string ⟨#[]⟩,.int .i64 0,.bool false,.bool false,.bool false,.bool false,.nilFunc]
theorem zkF (ob:Nat) (m:POp) (w:World) (h:w.heap[ob]?=some (zfh m)) (h1:1<=m.kind) (h2:m.kind<=6) :
  Calls prog 133 #[.func (Fn.func 139) #[] #[.pointer (some ⟨ob,0,none⟩)]] w fun e w'=>e = .returned (.tuple #[.agg (zoL m.kind),.bool true])/\Below w.heap.size w w':=by
 have hlt:ob < w.heap.size:=(yB.1 h).1
 obtain⟨j,hj,hk⟩ : ∃ j:Nat,j < 6/\m.kind=(j:Int)+1:=⟨(m.kind - 1).toNat,by omega,by omega⟩
 have hvi:zdS m.kind=(j:Int):=by unfold zdS; rw[yg ⟨h1,h2⟩]; omega
 have hvc:=fun (w:World) (g:Nat) (hg:w.heap[g]?=some (.cells zba 202 (0,0)))=>zf3 hg hj hk
 have hvF:∃ fid,zd4 m.kind = .func (Fn.func fid) #[] #[]:=by
  unfold zd4
  repeat' split
  all_goals exact⟨_,rfl⟩
 obtain⟨fid,hfid⟩:=hvF
 unfold zoL
 rw[hfid] at hvc ⊢
 generalize zjn m.kind=wb at *
 generalize zfN m.kind=hf at *
 generalize zc9 m.kind=hv at *
 generalize shF m.kind=sf at *
 generalize shP m.kind=sp at *
 have HVC:=zab hvc
 have HVI:=zab hvi
 clear hvc hvi hfid
 have hA:=zag w (.cells zcw 202)
 have kA:=yG w (.cells zcw 202)
 have zA:(w.alloc (.cells zcw 202)).heap.size=w.heap.size+1:=by simp
 have HO:=zab ((hA.block ob hlt).trans h)
 have HV:=zab (zeC (w.alloc (.cells zcw 202)))
 have HA:=zab hA
 have HKA:=zab kA
 clear h hA kA
 go_enter func133,ntmps133
 go_wp2_with fail
 unfold zcw at *
 generalize (w.alloc (.cells #[.string ⟨#[]⟩,.int .i64 0,.bool false,.bool false,.bool false,.bool false,.nilFunc] 202))=wA at *
 refine (uh HV).mono ?_
 rintro e w1 ⟨rfl,rfl⟩
 have hB:=zag wA (.cells zba 202)
 have kB:=yG wA (.cells zba 202)
 have zB:(wA.alloc (.cells zba 202)).heap.size=wA.heap.size+1:=by simp
 have HX:=zab (zeO wA.heap.size ob m (wA.alloc (.cells zba 202)) kB ((hB.block ob (by omega)).trans (uh HO)))
 have HKB:=zab kB
 have HAB:=zab (zaa (uh HA) hB)
 have HKC:=zab ((hB.block w.heap.size (by omega)).trans (uh HKA))
 have HZA:=zab zA
 have HZB:=zab zB
 clear HV hB kB HO HKA zA zB
 generalize (wA.alloc (.cells zba 202))=wB at *
 generalize wA.heap.size=G at *
 go_wp2_with fail
 refine (uh HX).mono ?_
 rintro e w2 ⟨rfl,b2⟩
 rw[uh HVI]
 have zA:=uh HZA
 have zB:=uh HZB
 have k2:=(b2.block G (by omega)).trans (uh HKB)
 obtain⟨q0,q1,q2,q3,q4,q5,q6⟩:=uh HVC _ _ k2
 have k3:=(b2.block w.heap.size (by omega)).trans (uh HKC)
 have c0:w2.cell? ⟨w.heap.size,0,none⟩=some (.string ⟨#[]⟩):=yF k3 0
 have c1:w2.cell? ⟨w.heap.size,1,none⟩=some (.int .i64 0):=yF k3 1
 have c2:w2.cell? ⟨w.heap.size,2,none⟩=some (.bool false):=yF k3 2
 have c3:w2.cell? ⟨w.heap.size,3,none⟩=some (.bool false):=yF k3 3
 have c4:w2.cell? ⟨w.heap.size,4,none⟩=some (.bool false):=yF k3 4
 have c5:w2.cell? ⟨w.heap.size,5,none⟩=some (.bool false):=yF k3 5
 have c6:w2.cell? ⟨w.heap.size,6,none⟩=some .nilFunc:=yF k3 6
 have fz:=yI k3
 have HK3:=zab k3
 have HB2:=zab (zaa (uh HAB) b2)
 clear HX HAB HKB HKC k2 k3 b2 zA zB HVC HVI h1 h2
 clear hk
 have hjI:(j:Int) < 6:=by omega
 go_wp2
 refine bodyPost_ret (zam rfl _ _ w.heap.size 202 #[_,_,_,_,_,_,_] (0,0) _ _ rfl rfl (zat (uh HK3) [_,_,_,_,_,_,_] rfl) underlying202 rfl (by kernel_rfl)) rfl ?_
 exact⟨rfl,zah (uh HB2) (ye _) [_,_,_,_,_,_,_] 0⟩
theorem zmj (ob:Nat) (m:POp) (w:World) (h:w.heap[ob]?=some (zfh m)) (hno:¬ (1<=m.kind/\m.kind<=6)) :
  Calls prog 133 #[.func (Fn.func 139) #[] #[.pointer (some ⟨ob,0,none⟩)]] w fun e w'=>e = .returned (.tuple #[.agg zcw,.bool false])/\Below w.heap.size w w':=by
 have hlt:ob < w.heap.size:=(yB.1 h).1
 have hvi:zdS m.kind = -1:=by unfold zdS; rw[yf hno]
 have HVI:=zab hvi
 clear hvi hno
 have hA:=zag w (.cells zcw 202)
 have kA:=yG w (.cells zcw 202)
 have zA:(w.alloc (.cells zcw 202)).heap.size=w.heap.size+1:=by simp
 have HO:=zab ((hA.block ob hlt).trans h)
 have HV:=zab (zeC (w.alloc (.cells zcw 202)))
 have HA:=zab hA
 have HKA:=zab kA
 clear h hA kA
 unfold zcw at *
 go_enter func133,ntmps133
 go_wp2_with fail
 generalize (w.alloc (.cells #[.string ⟨#[]⟩,.int .i64 0,.bool false,.bool false,.bool false,.bool false,.nilFunc] 202))=wA at *
 refine (uh HV).mono ?_
 rintro e w1 ⟨rfl,rfl⟩
 have hB:=zag wA (.cells zba 202)
 have kB:=yG wA (.cells zba 202)
 have zB:(wA.alloc (.cells zba 202)).heap.size=wA.heap.size+1:=by simp
 have HX:=zab (zeO wA.heap.size ob m (wA.alloc (.cells zba 202)) kB ((hB.block ob (by omega)).trans (uh HO)))
 have HAB:=zab (zaa (uh HA) hB)
 have HKC:=zab ((hB.block w.heap.size (by omega)).trans (uh HKA))
 have HZA:=zab zA
 have HZB:=zab zB
 clear HV hB kB HO HKA zA zB
 generalize (wA.alloc (.cells zba 202))=wB at *
 generalize wA.heap.size=G at *
 go_wp2_with fail
 refine (uh HX).mono ?_
 rintro e w2 ⟨rfl,b2⟩
 rw[uh HVI]
 have zA:=uh HZA
 have zB:=uh HZB
 have k3:=(b2.block w.heap.size (by omega)).trans (uh HKC)
 have c0:w2.cell? ⟨w.heap.size,0,none⟩=some (.string ⟨#[]⟩):=yF k3 0
 have c1:w2.cell? ⟨w.heap.size,1,none⟩=some (.int .i64 0):=yF k3 1
 have c2:w2.cell? ⟨w.heap.size,2,none⟩=some (.bool false):=yF k3 2
 have c3:w2.cell? ⟨w.heap.size,3,none⟩=some (.bool false):=yF k3 3
 have c4:w2.cell? ⟨w.heap.size,4,none⟩=some (.bool false):=yF k3 4
 have c5:w2.cell? ⟨w.heap.size,5,none⟩=some (.bool false):=yF k3 5
 have c6:w2.cell? ⟨w.heap.size,6,none⟩=some .nilFunc:=yF k3 6
 have fz:=yI k3
 have HK3:=zab k3
 have HB2:=zab (zaa (uh HAB) b2)
 clear HX HAB HKC k3 b2 zA zB HVI
 go_wp2
 refine bodyPost_ret (zam rfl _ _ w.heap.size 202 #[_,_,_,_,_,_,_] (0,0) _ _ rfl rfl (zat (uh HK3) [_,_,_,_,_,_,_] rfl) underlying202 rfl (by kernel_rfl)) rfl ?_
 exact⟨rfl,zah (uh HB2) (ye _) [_,_,_,_,_,_,_] 0⟩
end Go.Proofs.YtekpghcckdjnhaaGreatDoor
