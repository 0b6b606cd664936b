import Derived.Test.YtekpghcckdjnhaaGreatDoorBa7
import Derived.Test.YtekpghcckdjnhaaGreatDoorBa10
set_option maxRecDepth 100000
set_option maxHeartbeats 8000000
namespace Go.Proofs.YtekpghcckdjnhaaGreatDoor
open Go.RowKit Go.Proofs.Tryz
theorem zsm (p:za3) : zac (quoted p.1)++⟨#[58]⟩++zac p.2=zac (zav p):=by
 rw[show (⟨#[58]⟩ : ByteArray)=zac [58] from rfl,zdp,zdp]; simp[zav]
theorem zov (ps:List za3) (j:Nat) (h:j < ps.length) : joinC ((ps.take (j+1)).map zav)=joinC ((ps.take j).map zav)++(if j=0 then zav ps[j] else 44 :: zav ps[j]):=by
 rw[yy h,yw,List.map_singleton,zeF]
 by_cases hj:j=0
 ·subst hj; simp
 ·rw[yf (by simp; exact⟨hj,by intro e; subst e; simp at h⟩),yf hj]
theorem zjf (a b:List za3) : zbB (a++b)=zbB a+zbB b:=by
 unfold zbB; rw[yw,List.sum_append]
theorem znn (ps:List za3) (j:Nat) : zbB (ps.take j)<=zbB ps:=by
 have h:=congrArg zbB (List.take_append_drop j ps)
 have e:=zjf (ps.take j) (ps.drop j)
 omega
theorem zid (ps:List za3) (j:Nat) : (joinC ((ps.take j).map zav)).length<=zbB ps:=by
 have h:=zfD ((ps.take j).map zav)
 have h2:=znn ps j
 rw[List.map_map] at h
 exact yP h h2
theorem zuU (ps:List za3) (j:Nat) (h:j < ps.length) : (zav ps[j]).length+1<=zbB ps:=by
 have h1:=znn ps (j+1)
 rw[yy h] at h1
 have e:zbB (ps.take j++[ps[j]])=zbB (ps.take j)+((zav ps[j]).length+1):=by rw[zjf]; simp[zbB]
 omega
theorem zkm (B:Nat) (v:Value) (ps:List za3) (w:World) (h:PR w B v ps) (hn:zbB ps<=40000000) (hl:ps.length<=40000000) (hk:∀ p∈ps,p.1.length<=1048576) :
  Calls prog 145 #[v] w fun e w'=>e = .returned (.string (zac (mkO ps)))/\Below w.heap.size w w':=by
 obtain⟨i0,hi0,hz0,hz1,hz2⟩:=info_parts zkj
 obtain⟨x,len,cap,rfl,hlen⟩ : ∃ x len cap,v = .slice x len cap/\len=ps.length:=by
  rcases h.2 with ⟨hv,h0⟩ | ⟨g,cap,cur,hv,_⟩
  ·exact⟨_,_,_,hv,h0.symm⟩
  ·exact⟨_,_,_,hv,rfl⟩
 subst hlen
 have HP:=zab h
 have HK:=zab hk
 clear h hk
 go_enter func145,ntmps145
 go_wp2_with fail
 go_loopw [3,4] (fun r k wr=>∃ (j:Nat) (acc:List UInt8),k = .int .i64 (j:Int)/\j<=ps.length/\acc=123 :: joinC ((ps.take j).map zav)/\wr.ownsRow w.heap.size 5 1 r (Lib.byteCells acc).length (Lib.byteCells acc)/\Below w.heap.size w wr) (fun _ k _=>ps.length - (intOf k).toNat)
 case atStart=>
  exact⟨0,[123],rfl,yt _,rfl,World.ownsRow_lit w #[.int .u8 123] 1 (ye _) (by unfold maxLen; omega) rfl,(yH _ _).alloc (ye _) _⟩
 case round=>
  obtain⟨j,acc,rfl,hj,hacc,hown,hb⟩:=hrel
  have HA:=zab hacc
  have HB:=zab hb
  have hwsz:=hb.size
  have hal:acc.length<=40000001:=by
   have:=zid ps j
   rw[hacc]; simp only[yn]; omega
  clear hacc hb
  by_cases hin:j < ps.length
  ·have t1:((j:Int) < (ps.length:Int))=True:=eq_true (by omega)
   have i1:(0:Int)<=(j:Int):=by omega
   have i2:(j:Int) < (ps.length:Int):=by omega
   have hm:=zuU ps j hin
   have hcat:=zsm ps[j]
   have HQ:Hid (∀ w,Calls prog 117 #[.string (zac ps[j].1)] w fun e w'=>e = .returned (.string (zac (quoted ps[j].1)))/\Below w.heap.size w w'):=fun w=>by
    have:=zgY (zac ps[j].1) w (by rw[zaf]; exact uh HK _ (yr _))
    rwa [zad] at this
   have HJ:=zab (zov ps j hin)
   have z1:(zac (quoted ps[j].1)).size<=40000000:=by
    rw[zaf]
    simp only[zav,yh,yn] at hm; omega
   have z2:(zac ps[j].2).size<=40000000:=by
    rw[zaf]
    simp only[zav,yh,yn] at hm; omega
   have z3:(9223372036854775807 < (zac (quoted ps[j].1)).size+1)=False:=yQ (by omega)
   have z4:(9223372036854775807 < (zac (quoted ps[j].1)).size+1+(zac ps[j].2).size)=False:=yQ (by omega)
   by_cases hj0:j=0
   ·have t2:(0 < j)=False:=yQ (by omega)
    rw[yg hj0] at HJ
    obtain⟨g,cap',he,hgB,hgl,c0,c1⟩:=(uh HP).cells j hin
    injection he with he1 he2 he3
    subst he1; subst he3
    generalize ps[j]=p at *
    clear hj0
    have keepc:Hid (∀ X:World,Below w.heap.size w X->X.cell? ⟨g,j*2,none⟩=some (.string (zac p.1))/\X.cell? ⟨g,j*2+1,none⟩=some (.string (zac p.2))):=fun X hX=>⟨(hX.cell hgl).trans c0,(hX.cell hgl).trans c1⟩
    clear c0 c1
    go_wp2_with fail
    obtain⟨k00,k01⟩:=uh keepc _ ((uh HB).drew)
    go_region_law (first
      | (go_simp; refine (uh HQ _).mono ?_; rintro e w2 ⟨rfl, b2⟩
         have B2:=zaa ((uh HB).drew) b2
         obtain⟨cap3,W3,hcv,hcell,b3,hk3,hs3⟩:=zc7 w2 (zav p)
         have own3:=hk3 _ _ _ _ _ (zaj (w:=wr.drew) hown b2)
         have B3:=zaa B2 b3
         have HCELL:=zab hcell
         have hw2:=B2.size
         obtain⟨k0,k1⟩:=uh keepc _ B2
         clear hcell hk3)
      | (refine zcF rfl (.tmp 17) (.tmp 31) 160 rfl w.heap.size 5 i0 (.int .u8 0) 1 1 underlying160 hi0 hz0 hz1 hz2 rfl (by decide) _ _ _ rfl (by exact own3) ⟨w2.heap.size, 0, none⟩ (zav p).length cap3 (Lib.byteCells (zav p)) rfl (by rw [yK]; omega) (by exact uh HCELL) (zdY _) (by rw [yK]; unfold maxLen; omega) (by rw [yK]; omega) (by omega) ?_
         intro v4 w4 own4 hg4
         have B4:Below w.heap.size w w4:=B3.grown hg4 (by omega) (fun k hk=>(own3.lt k hk).1)))
    all_goals
     have own4':=zaI (m:=zav p) own4 rfl rfl
     clear own4 hg4 own3 HCELL B3 B2 hcv b2 b3 hown keepc HB
     go_wp2
     go_roundw
    all_goals first
     | exact⟨j+1,acc++zav p,by go_num,by omega,by rw[uh HA,uh HJ]; simp,own4',B4⟩
     | (simp[intOf]; omega)
   ·have t2:(0 < j)=True:=eq_true (by omega)
    rw[yf hj0] at HJ
    obtain⟨g,cap',he,hgB,hgl,c0,c1⟩:=(uh HP).cells j hin
    injection he with he1 he2 he3
    subst he1; subst he3
    generalize ps[j]=p at *
    clear hj0
    have keepc:Hid (∀ X:World,Below w.heap.size w X->X.cell? ⟨g,j*2,none⟩=some (.string (zac p.1))/\X.cell? ⟨g,j*2+1,none⟩=some (.string (zac p.2))):=fun X hX=>⟨(hX.cell hgl).trans c0,(hX.cell hgl).trans c1⟩
    clear c0 c1
    go_wp2_with (at_builtin; refine wpList_append_own _ rfl (.tmp 14) (.tmp 15) 160 rfl w.heap.size 5 i0 (.int .u8 0) 1 1 underlying160 hi0 hz0 hz1 hz2 rfl (by decide) _ _ _ rfl (hown.alloc _) ⟨wr.heap.size,0,none⟩ 1 1 [.int .u8 44] rfl rfl (zlZ _ _ _) (zsg _ _) (by rw[yK]; unfold maxLen; omega) (by rw[yK]; omega) (by simp; omega) ?_; intro v1 w1 own1 hg1 _; have own1':=zaI (m:=[44]) own1 rfl rfl; have HB1:=zab (((uh HB).alloc hwsz _).grown hg1 (by simp; omega) (fun k hk=>(hown.lt k hk).1)); have hw1:=(uh HB1).size; have hal1:(acc++[44]).length<=40000002:=by { simp; omega })
    clear own1 hg1 hown HB
    obtain⟨k00,k01⟩:=uh keepc _ ((uh HB1).drew)
    go_region_law (first
      | (go_simp; refine (uh HQ _).mono ?_; rintro e w2 ⟨rfl, b2⟩
         have B2:=zaa ((uh HB1).drew) b2
         obtain⟨cap3,W3,hcv,hcell,b3,hk3,hs3⟩:=zc7 w2 (zav p)
         have own3:=hk3 _ _ _ _ _ (zaj (w:=w1.drew) own1' b2)
         have B3:=zaa B2 b3
         have HCELL:=zab hcell
         have hw2:=B2.size
         obtain⟨k0,k1⟩:=uh keepc _ B2
         clear hcell hk3)
      | (refine zcF rfl (.tmp 17) (.tmp 31) 160 rfl w.heap.size 5 i0 (.int .u8 0) 1 1 underlying160 hi0 hz0 hz1 hz2 rfl (by decide) _ _ _ rfl (by exact own3) ⟨w2.heap.size, 0, none⟩ (zav p).length cap3 (Lib.byteCells (zav p)) rfl (by rw [yK]; omega) (by exact uh HCELL) (zdY _) (by rw [yK]; unfold maxLen; omega) (by rw [yK]; omega) (by omega) ?_
         intro v4 w4 own4 hg4
         have B4:Below w.heap.size w w4:=B3.grown hg4 (by omega) (fun k hk=>(own3.lt k hk).1)))
    all_goals
     have own4':=zaI (m:=zav p) own4 rfl rfl
     clear own4 hg4 own3 HCELL B3 B2 hcv b2 b3 own1' keepc HB1
     go_wp2
     go_roundw
    all_goals first
     | exact⟨j+1,(acc++[44])++zav p,by go_num,by omega,by rw[uh HA,uh HJ]; simp,own4',B4⟩
     | (simp[intOf]; omega)
  ·have t1:((j:Int) < (ps.length:Int))=False:=yQ (by omega)
   have HE:Hid (acc++[125]=mkO ps):=by
    show _=_
    rw[uh HA,yq (by omega)]; simp[mkO]
   go_wp2_with (at_builtin; refine wpList_append_own _ rfl (.tmp 33) (.tmp 34) 160 rfl w.heap.size 5 i0 (.int .u8 0) 1 1 underlying160 hi0 hz0 hz1 hz2 rfl (by decide) _ _ _ rfl (hown.alloc _) ⟨wr.heap.size,0,none⟩ 1 1 [.int .u8 125] rfl rfl (zlZ _ _ _) (zsg _ _) (by rw[yK]; unfold maxLen; omega) (by rw[yK]; omega) (by simp; omega) ?_; intro v1 w1 own1 hg1 _; have own1':=zaI (m:=[125]) own1 rfl rfl; have HB1:=zab (((uh HB).alloc hwsz _).grown hg1 (by simp; omega) (fun k hk=>(hown.lt k hk).1)); have hcv:=zb7 own1'; clear own1 hg1 own1' hown HB)
   go_ret
   exact⟨by rw[← uh HE]; rfl,uh HB1⟩
def zgZ (ps:List za3) : Nat:=(ps.map (fun p=>p.2.length+1)).sum
theorem zow (ps:List za3) (j:Nat) (h:j < ps.length) : joinC ((ps.take (j+1)).map (·.2))=joinC ((ps.take j).map (·.2))++(if j=0 then ps[j].2 else 44 :: ps[j].2):=by
 rw[yy h,yw,List.map_singleton,zeF]
 by_cases hj:j=0
 ·subst hj; simp
 ·rw[yf (by simp; exact⟨hj,by intro e; subst e; simp at h⟩),yf hj]
theorem zno (a b:List za3) : zgZ (a++b)=zgZ a+zgZ b:=by
 unfold zgZ; rw[yw,List.sum_append]
theorem zkn (ps:List za3) (j:Nat) : zgZ (ps.take j)<=zgZ ps:=by
 have h:=congrArg zgZ (List.take_append_drop j ps)
 have e:=zno (ps.take j) (ps.drop j)
 omega
theorem zpN (ps:List za3) (j:Nat) : (joinC ((ps.take j).map (·.2))).length<=zgZ ps:=by
 have h:=zfD ((ps.take j).map (·.2))
 have h2:=zkn ps j
 rw[List.map_map] at h
 exact yP h h2
theorem zuV (ps:List za3) (j:Nat) (h:j < ps.length) : ps[j].2.length+1<=zgZ ps:=by
 have h1:=zkn ps (j+1)
 rw[yy h] at h1
 have e:zgZ (ps.take j++[ps[j]])=zgZ (ps.take j)+(ps[j].2.length+1):=by rw[zno]; simp[zgZ]
 omega
theorem zox (B:Nat) (v:Value) (ps:List za3) (w:World) (h:PR w B v ps) (hn:zgZ ps<=40000000) (hl:ps.length<=40000000) :
  Calls prog 152 #[v] w fun e w'=>e = .returned (.string (zac (mkA (ps.map (·.2)))))/\Below w.heap.size w w':=by
 obtain⟨i0,hi0,hz0,hz1,hz2⟩:=info_parts zkj
 obtain⟨x,len,cap,rfl,hlen⟩ : ∃ x len cap,v = .slice x len cap/\len=ps.length:=by
  rcases h.2 with ⟨hv,h0⟩ | ⟨g,cap,cur,hv,_⟩
  ·exact⟨_,_,_,hv,h0.symm⟩
  ·exact⟨_,_,_,hv,rfl⟩
 subst hlen
 have HP:=zab h
 clear h
 go_enter func152,ntmps152
 go_wp2_with fail
 go_loopw [3,4] (fun r k wr=>∃ (j:Nat) (acc:List UInt8),k = .int .i64 (j:Int)/\j<=ps.length/\acc=91 :: joinC ((ps.take j).map (·.2))/\wr.ownsRow w.heap.size 5 1 r (Lib.byteCells acc).length (Lib.byteCells acc)/\Below w.heap.size w wr) (fun _ k _=>ps.length - (intOf k).toNat)
 case atStart=>
  exact⟨0,[91],rfl,yt _,rfl,World.ownsRow_lit w #[.int .u8 91] 1 (ye _) (by unfold maxLen; omega) rfl,(yH _ _).alloc (ye _) _⟩
 case round=>
  obtain⟨j,acc,rfl,hj,hacc,hown,hb⟩:=hrel
  have HA:=zab hacc
  have HB:=zab hb
  have hwsz:=hb.size
  have hal:acc.length<=40000001:=by
   have:=zpN ps j
   rw[hacc]; simp only[yn]; omega
  clear hacc hb
  by_cases hin:j < ps.length
  ·have t1:((j:Int) < (ps.length:Int))=True:=eq_true (by omega)
   have i1:(0:Int)<=(j:Int):=by omega
   have i2:(j:Int) < (ps.length:Int):=by omega
   have hm:=zuV ps j hin
   have HJ:=zab (zow ps j hin)
   by_cases hj0:j=0
   ·have t2:(0 < j)=False:=yQ (by omega)
    rw[yg hj0] at HJ
    obtain⟨g,cap',he,hgB,hgl,c0,c1⟩:=(uh HP).cells j hin
    injection he with he1 he2 he3
    subst he1; subst he3
    generalize ps[j]=p at *
    clear hj0
    have c1':wr.cell? ⟨g,j*2+1,none⟩=some (.string (zac p.2)):=((uh HB).cell hgl).trans c1
    have c1w:=c1
    clear c0 c1
    obtain⟨cap3,W3,hcv,hcell,b3,hk3,hs3⟩:=zc7 wr p.2
    have own3:=hk3 _ _ _ _ _ hown
    have B3:=(uh HB).trans (b3.mono hwsz)
    have HCELL:=zab hcell
    clear hcell hk3 hown
    go_wp2_with (at_builtin; refine wpList_append_own _ rfl (.tmp 17) (.tmp 23) 160 rfl w.heap.size 5 i0 (.int .u8 0) 1 1 underlying160 hi0 hz0 hz1 hz2 rfl (by decide) _ _ _ rfl own3 ⟨wr.heap.size,0,none⟩ p.2.length cap3 (Lib.byteCells p.2) rfl (by rw[yK]; omega) (by exact uh HCELL) (zdY _) (by rw[yK]; unfold maxLen; omega) (by rw[yK]; omega) (by omega) ?_; intro v4 w4 own4 hg4 _; have B4:Below w.heap.size w w4:=B3.grown hg4 (by omega) (fun k hk=>(own3.lt k hk).1))
    have own4':=zaI (m:=p.2) own4 rfl rfl
    clear own4 hg4 own3 HCELL B3 hcv b3 c1' c1w HB
    go_wp2
    go_roundw
    all_goals first
     | exact⟨j+1,acc++p.2,by go_num,by omega,by rw[uh HA,uh HJ]; simp,own4',B4⟩
     | (simp[intOf]; omega)
   ·have t2:(0 < j)=True:=eq_true (by omega)
    rw[yf hj0] at HJ
    obtain⟨g,cap',he,hgB,hgl,c0,c1⟩:=(uh HP).cells j hin
    injection he with he1 he2 he3
    subst he1; subst he3
    generalize ps[j]=p at *
    clear hj0
    have keepc:Hid (∀ X:World,Below w.heap.size w X->X.cell? ⟨g,j*2+1,none⟩=some (.string (zac p.2))):=fun X hX=>(hX.cell hgl).trans c1
    clear c0 c1
    go_wp2_with (at_builtin; refine wpList_append_own _ rfl (.tmp 14) (.tmp 15) 160 rfl w.heap.size 5 i0 (.int .u8 0) 1 1 underlying160 hi0 hz0 hz1 hz2 rfl (by decide) _ _ _ rfl (hown.alloc _) ⟨wr.heap.size,0,none⟩ 1 1 [.int .u8 44] rfl rfl (zlZ _ _ _) (zsg _ _) (by rw[yK]; unfold maxLen; omega) (by rw[yK]; omega) (by simp; omega) ?_)
    intro v1 w1 own1 hg1 _
    have own1':=zaI (m:=[44]) own1 rfl rfl
    have HB1:=zab (((uh HB).alloc hwsz _).grown hg1 (by simp; omega) (fun k hk=>(hown.lt k hk).1))
    have hw1:=(uh HB1).size
    have hal1:(acc++[44]).length<=40000002:=by simp; omega
    obtain⟨cap3,W3,hcv,hcell,b3,hk3,hs3⟩:=zc7 w1 p.2
    have own3:=hk3 _ _ _ _ _ own1'
    have B3:=(uh HB1).trans (b3.mono hw1)
    have HCELL:=zab hcell
    have c1':=uh keepc _ (uh HB1)
    clear own1 hg1 hown HB own1' hcell hk3
    go_wp2_with (at_builtin; refine wpList_append_own _ rfl (.tmp 17) (.tmp 23) 160 rfl w.heap.size 5 i0 (.int .u8 0) 1 1 underlying160 hi0 hz0 hz1 hz2 rfl (by decide) _ _ _ rfl own3 ⟨w1.heap.size,0,none⟩ p.2.length cap3 (Lib.byteCells p.2) rfl (by rw[yK]; omega) (by exact uh HCELL) (zdY _) (by rw[yK]; unfold maxLen; omega) (by rw[yK]; omega) (by omega) ?_; intro v4 w4 own4 hg4 _; have B4:Below w.heap.size w w4:=B3.grown hg4 (by omega) (fun k hk=>(own3.lt k hk).1))
    have own4':=zaI (m:=p.2) own4 rfl rfl
    clear own4 hg4 own3 HCELL B3 hcv b3 c1' HB1 keepc
    go_wp2
    go_roundw
    all_goals first
     | exact⟨j+1,(acc++[44])++p.2,by go_num,by omega,by rw[uh HA,uh HJ]; simp,own4',B4⟩
     | (simp[intOf]; omega)
  ·have t1:((j:Int) < (ps.length:Int))=False:=yQ (by omega)
   have HE:Hid (acc++[93]=mkA (ps.map (·.2))):=by
    show _=_
    rw[uh HA,yq (by omega)]; simp[mkA]
   go_wp2_with (at_builtin; refine wpList_append_own _ rfl (.tmp 25) (.tmp 26) 160 rfl w.heap.size 5 i0 (.int .u8 0) 1 1 underlying160 hi0 hz0 hz1 hz2 rfl (by decide) _ _ _ rfl (hown.alloc _) ⟨wr.heap.size,0,none⟩ 1 1 [.int .u8 93] rfl rfl (zlZ _ _ _) (zsg _ _) (by rw[yK]; unfold maxLen; omega) (by rw[yK]; omega) (by simp; omega) ?_; intro v1 w1 own1 hg1 _; have own1':=zaI (m:=[93]) own1 rfl rfl; have HB1:=zab (((uh HB).alloc hwsz _).grown hg1 (by simp; omega) (fun k hk=>(hown.lt k hk).1)); have hcv:=zb7 own1'; clear own1 hg1 own1' hown HB)
   go_ret
   exact⟨by rw[← uh HE]; rfl,uh HB1⟩
end Go.Proofs.YtekpghcckdjnhaaGreatDoor
