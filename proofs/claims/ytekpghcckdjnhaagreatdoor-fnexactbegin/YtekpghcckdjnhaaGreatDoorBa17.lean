import Derived.Test.YtekpghcckdjnhaaGreatDoorBa1
import Derived.Test.YtekpghcckdjnhaaGreatDoorBa16
import Derived.Lib.RuneCount
set_option maxRecDepth 100000
set_option maxHeartbeats 8000000
namespace Go.Proofs.YtekpghcckdjnhaaGreatDoor
open Go.RowKit Go.Shelf Go.Proofs.Tryz
def ML (w:World) : Prop:=∃ m,w.cell? ⟨Tryz.laysM146_ren.g 1,0,none⟩=some (.int .i64 m)
theorem ML.of {w:World} (h:w.ShapedOpen prog) : ML w:=Tryz.laysM146.s1_3 w h
theorem ML.below {w w':World} (h:ML w) (hb:Below w.heap.size w w') : ML w':=by
 obtain⟨m,hm⟩:=h
 exact⟨m,(hb.cell (yJ _ _ hm)).trans hm⟩
def zsa (s:ByteArray) : List ByteArray:=Lib.splitB ⟨#[47]⟩ 0 (Lib.countB s ⟨#[47]⟩) s
theorem zpV (s:ByteArray) : (zsa s).map (·.data.toList)=zaV s.data.toList:=zi9 s
theorem zjk (s:ByteArray) : (zsa s).length=Lib.countB s ⟨#[47]⟩+1:=Lib.splitB_all ⟨#[47]⟩ (by decide) 0 _ s rfl
theorem zuZ (s:ByteArray) : (zsa s).length<=s.size+1:=by rw[zjk]; have:=Lib.countB_le ⟨#[47]⟩ (by decide) _ s (ye _); omega
theorem zoC (s:ByteArray) (w:World) (h:ML w) (hs:s.size<=1048576) :
  Calls prog 158 #[.string s,.string ⟨#[47]⟩] w fun e w'=>e = .returned (.slice (some ⟨w.heap.size,0,none⟩) (zsa s).length (zsa s).length)/\SS w' (some ⟨w.heap.size,0,none⟩) w.heap.size 0 (zsa s)/\Below w.heap.size w w'/\w.heap.size < w'.heap.size:=by
 obtain⟨m,hm⟩:=h
 refine Calls.mono (Any.strings_Split { Tryz.laysM146 with } Tryz.laysM146.i9 s ⟨#[47]⟩ m w (by omega) hm (by decide)) ?_
 rintro e w' ⟨rfl,rfl⟩
 refine⟨?_,⟨fun _=>rfl,fun j hj=>?_⟩,(yH _ _).alloc (ye _) _,by simp⟩
 ·rw[zjk]
 ·have hg:=yG w (.cells ((zsa s).map Value.string).toArray 9)
  show (w.alloc (.cells ((zsa s).map Value.string).toArray 9)).cell? _=_
  rw[yF hg]
  simp[hj]
end Go.Proofs.YtekpghcckdjnhaaGreatDoor
namespace Go.Proofs.YtekpghcckdjnhaaGreatDoor
open Go.RowKit Go.Proofs.Tryz
theorem zif {c:UInt8} {r:List UInt8} (h:¬ c.toNat=47) : ∃ p ps,zaV (c :: r)=(c :: p) :: ps:=by
 cases hp:zaV r with
 | nil=>exact absurd hp (ze8 r)
 | cons p ps=>exact⟨p,ps,zcE h hp⟩
theorem ze1:∀ (l p:List UInt8),p∈zaV l->p.length<=l.length
 | [],p,h=>by simp[zaV] at h; subst h; simp
 | c :: r,p,h=>by
  have ih:=ze1 r
  by_cases hc:c.toNat=47
  ·rw[zc5 r hc] at h
   rcases List.mem_cons.1 h with rfl | h
   ·simp
   ·have:=ih p h; simp; omega
  ·cases hp:zaV r with
   | nil=>exact absurd hp (ze8 r)
   | cons q qs=>
    rw[zcE hc hp] at h
    rcases List.mem_cons.1 h with rfl | h
    ·have:=ih q (by rw[hp]; exact yp); simp; omega
    ·have:=ih p (by rw[hp]; exact yv _ h); simp; omega
def zl6 (qs:List (List UInt8)) (k:Nat) (done:List (List UInt8)) : Prop:=qs.mapM zau=((qs.drop k).mapM zau).map (done++·)
theorem zl6.start (qs:List (List UInt8)) : zl6 qs 0 []:=by simp[zl6]
theorem zeq (p:List UInt8) (ps:List (List UInt8)) : (p :: ps).mapM zau=(zau p).bind fun t=>(ps.mapM zau).map (t :: ·):=by
 rw[List.mapM_cons]
 cases zau p with
 | none=>rfl
 | some t=>cases List.mapM zau ps <;> rfl
theorem zl6.step {qs done:List (List UInt8)} {k:Nat} {t:List UInt8} (h:zl6 qs k done) (hk:k < qs.length) (hu:zau qs[k]=some t) : zl6 qs (k+1) (done++[t]):=by
 unfold zl6 at *
 rw[h,List.drop_eq_getElem_cons hk,zeq,hu]
 show Option.map (done++·) (Option.map (t :: ·) _)=_
 rw[Option.map_map]; congr 1; funext x; simp
theorem zl6.bad {qs done:List (List UInt8)} {k:Nat} (h:zl6 qs k done) (hk:k < qs.length) (hu:zau qs[k]=none) : qs.mapM zau=none:=by
 unfold zl6 at h
 rw[h,List.drop_eq_getElem_cons hk,zeq,hu]; rfl
theorem zl6.fin {qs done:List (List UInt8)} {k:Nat} (h:zl6 qs k done) (hk:qs.length<=k) : qs.mapM zau=some done:=by
 unfold zl6 at h
 rw[h,List.drop_eq_nil_of_le hk]; simp
theorem zdy (s:ByteArray) (w:World) (hML:ML w) (hs:s.size<=1048576) :
  Calls prog 131 #[.string s] w fun e w'=>∃ v,e = .returned (.tuple #[v,.bool (zar s.data.toList).isSome])/\OT w' w.heap.size v ((zar s.data.toList).getD [])/\Below w.heap.size w w':=by
 obtain⟨i0,hi,hz0,hz1,hz2⟩:=info_parts zfR
 by_cases h0:s.size=0
 ·have hse:s=⟨#[]⟩:=by
   have:s.data.toList=[]:=yN (by rw[zak]; exact h0)
   obtain⟨⟨l⟩⟩:=s; simp at this; subst this; rfl
  subst hse
  clear h0
  go_enter func131,ntmps131
  go_wp2
  go_ret2
  exact⟨_,rfl,World.ownsRow_nil _ _ _ _,yH _ _⟩
 ·have hne:s.toList.isEmpty=false:=by
   rw[Lib.toList_data,List.isEmpty_eq_false_iff]; intro e; exact h0 (by rw[← zak,e]; rfl)
  have h0':0 < s.size:=by omega
  have hdl:=zak s
  have C:=zab (zoC s w hML hs)
  have hcd:=zpV s
  have hcl:=zuZ s
  have hll:s.data.toList=s[0] :: s.data.toList.drop 1:=by have:=zax s 0 h0'; simpa using this
  obtain⟨p0,ps,hps⟩ : ∃ p0 ps,zsa s=p0 :: ps:=by
   cases h:zsa s with
   | nil=>have:=zjk s; rw[h] at this; simp at this
   | cons p0 ps=>exact⟨p0,ps,rfl⟩
  rw[hps] at hcd hcl
  rw[hps] at C
  by_cases h47:s[0].toNat=47
  ·rw[hll,zc5 _ h47] at hcd
   simp only[yi,List.cons.injEq] at hcd
   have hp0:p0=⟨#[]⟩:=by obtain⟨⟨l⟩⟩:=p0; have:=hcd.1; simp at this; subst this; rfl
   have HQ:=zab hcd.2
   have HP:Hid (zar s.data.toList=ziA (s.data.toList.drop 1)):=ziB (by omega) h47
   clear hcd hll h47 hdl
   subst hp0
   go_enter func131,ntmps131
   go_wp2_with fail
   refine (uh C).mono ?_
   rintro e w1 ⟨rfl,s1,b1,z1⟩
   have c0:=s1.cell 0 (by simp)
   simp only[Nat.add_zero,List.getD_cons_zero] at c0
   have hpl:ps.length<=1048576:=by simp at hcl; omega
   have hpe:¬ ps=[]:=by intro e; have h:=uh HQ; rw[e] at h; exact ze8 _ h.symm
   have hpp:0 < ps.length:=by cases ps with
    | nil=>exact absurd rfl hpe
    | cons _ _=>simp
   have HS1:=zab s1
   have hw1:=b1.size
   clear s1 hcl C hps hne
   go_wp2_with (at_make; refine wpList_make_own _ rfl _ _ 55 rfl w1.heap.size 9 i0 (.string ByteArray.empty) 1 underlying55 hi hz0 hz1 .i64 .i64 _ ps.length rfl rfl rfl (by rw[hz2]; omega) (by unfold maxLen; omega) (ye _) ?_)
   intro w2 hown2 hgrow2
   have HB2:Hid (Below w1.heap.size w1 w2):=(yH _ _).grown hgrow2 (ye _) (by intro k hk; cases hk)
   have HO2:=zab hown2
   clear hown2 hgrow2
   go_wp2
   go_loopw [5,25] (fun v i wr=>∃ (k:Nat) (done:List (List UInt8)),k<=ps.length/\i = .int .i64 k/\done.length<=k/\OT wr w1.heap.size v done/\Below w1.heap.size w1 wr/\zl6 (ps.map (·.data.toList)) k done) (fun _ i _=>ps.length - (intOf i).toNat)
   case atStart=>exact⟨0,[],yt _,rfl,ye _,uh HO2,uh HB2,zl6.start _⟩
   case round=>
    obtain⟨k,done,hk,rfl,hdn,hown,hb,hmp⟩:=hrel
    have HM:=zab hmp
    have hwsz:=hb.size
    clear hmp HO2 HB2 c0
    by_cases hlt:k < ps.length
    ·have hc1:=(uh HS1).cell (k+1) (by simp; omega)
     have hc:wr.cell? ⟨w.heap.size,1+k,none⟩=some (.string (ps.getD k ByteArray.empty)):=by
      have h1:w1.cell? ⟨w.heap.size,1+k,none⟩=some (.string (ps.getD k ByteArray.empty)):=by
       rw[show 1+k=0+(k+1) from by omega,hc1]; simp
      exact (hb.cell (p:=⟨w.heap.size,1+k,none⟩) z1).trans h1
     have hsz:(ps.getD k ByteArray.empty).size<=1048576:=by
      have hm:(ps.getD k ByteArray.empty).data.toList∈ps.map (·.data.toList):=yO.2 ⟨_,by simp[hlt],rfl⟩
      rw[uh HQ] at hm
      have:=ze1 _ _ hm
      rw[zak,yu,zak] at this; omega
     have hqk:(ps.map (·.data.toList))[k]'(by simpa using hlt)=(ps.getD k ByteArray.empty).data.toList:=by simp[hlt]
     have HC:=zab (zkl (ps.getD k ByteArray.empty) wr hsz)
     clear hc1 hsz
     generalize ps.getD k ByteArray.empty=p at *
     cases ho:zau p.data.toList with
     | none=>
      have HF:=zab ((uh HM).bad (by simpa using hlt) (by rw[hqk]; exact ho))
      rw[ho,zeZ] at HC
      clear hqk ho
      go_wp2_with fail
      refine (uh HC).mono ?_
      rintro e w3 ⟨rfl,b3⟩
      have B3:=zaa hb b3
      clear hown HC
      go_wp2
      go_ret2
      have HR:zar s.data.toList=none:=by rw[uh HP]; unfold ziA; rw[← uh HQ]; exact uh HF
      exact⟨_,by rw[HR]; rfl,by rw[HR]; exact World.ownsRow_nil _ _ _ _,b1.trans (B3.mono hw1)⟩
     | some t=>
      have HF:=zab ((uh HM).step (by simpa using hlt) (by rw[hqk]; exact ho))
      rw[ho,zeY] at HC
      clear hqk ho
      go_wp2_with fail
      refine (uh HC).mono ?_
      rintro e w3 ⟨rfl,b3⟩
      have B3:=zaa hb b3
      have own3:=zaj hown b3
      have hw3:=B3.size
      clear hown HC b3
      go_wp2_with (at_builtin; refine wpList_append_own _ rfl (.tmp 36) (.tmp 38) 55 rfl w1.heap.size 9 i0 (.string ByteArray.empty) 1 16 underlying55 hi hz0 hz1 hz2 rfl (by decide) _ _ _ rfl (own3.alloc _) ⟨w3.heap.size,0,none⟩ 1 1 [.string (baT t)] rfl rfl (zlZ _ _ _) (zgU _) (by unfold maxLen; omega) (by omega) (by simp; omega) ?_)
      intro v4 w4 hown4 hgrow4 _
      have B4:Below w1.heap.size w1 w4:=(B3.alloc hw3 _).grown hgrow4 (by simp; omega) (fun k hk=>(own3.lt k hk).1)
      have own4:=OT.step (t:=t) hown4
      clear hown4 hgrow4 own3
      go_wp2
      go_roundw
      case rel=>exact⟨k+1,done++[t],by omega,by go_num,by simp; omega,own4,B4,uh HF⟩
      case measure=>simp[intOf]; omega
    ·have HF:=zab ((uh HM).fin (by simp; omega))
     go_wp2
     go_ret2
     have HR:zar s.data.toList=some done:=by rw[uh HP]; unfold ziA; rw[← uh HQ]; exact uh HF
     exact⟨_,by rw[HR]; rfl,by rw[HR]; exact zaC hown hw1,b1.trans (hb.mono hw1)⟩
  ·obtain⟨q,qs,hq⟩:=zif (r:=s.data.toList.drop 1) h47
   rw[hll,hq] at hcd
   simp only[yi,List.cons.injEq] at hcd
   have hp0:p0.toList.isEmpty=false:=by rw[Lib.toList_data,hcd.1]; rfl
   have HP:Hid (zar s.data.toList=none):=zkk (by omega) h47
   clear hcd hll h47 hdl hq
   go_enter func131,ntmps131
   go_wp2_with fail
   refine (uh C).mono ?_
   rintro e w1 ⟨rfl,s1,b1,z1⟩
   have c0:=s1.cell 0 (by simp)
   simp only[Nat.add_zero,List.getD_cons_zero] at c0
   clear s1 C hps hcl hne
   go_wp2
   go_ret2
   exact⟨_,by rw[uh HP]; rfl,by rw[uh HP]; exact World.ownsRow_nil _ _ _ _,b1⟩
theorem zg2 (B b:Nat) (bs:List Value) (r:Int) (hr0 : -2147483648<=r) (hr1:r<=2147483647) (w:World) (h:Lib.IsBuilder 192 5 B b bs w) (hlen:bs.length+4<=140737488355328) (hBw:B<=w.heap.size) :
  Calls prog 206 #[.pointer (some ⟨b,0,none⟩),.int .i32 r] w fun e w'=>(∃ n:Int,e = .returned (.tuple #[.int .i64 n,.nilIface]))/\(Lib.BuilderAt 192 5 B b (.pointer (some ⟨b,0,none⟩)) (bs++Lib.runeCells r) w'/\Below B w w'/\Lib.OthersKept 5 (some b) w w'):=by
 go_enter func206,ntmps206
 go_wp2_with (go_at_call 214; refine (zl3 B b bs _ h).mono ?_)
 rintro e w1 ⟨rfl,h1,hb1,hk1⟩
 obtain⟨hB,v,hbk,hown,hne⟩:=h1
 have c0:w1.cell? ⟨b,0,none⟩=some (.pointer (some ⟨b,0,none⟩)):=by rw[yF hbk]; rfl
 have c1:w1.cell? ⟨b,1,none⟩=some v:=by rw[yF hbk]; rfl
 obtain⟨va,vn,vc,rfl⟩ : ∃ ao n' cap,v = .slice ao n' cap:=by
  rcases hown.2 with ⟨hv,_⟩ | ⟨g,cap,cur,hv,_⟩
  ·exact⟨_,_,_,hv⟩
  ·exact⟨_,_,_,hv⟩
 have hBw1:B<=w1.heap.size:=by have:=hb1.size; omega
 have HA:=zab (Tryz.utf8_AppendRune_plain B (.slice va vn vc) bs.length bs r hr0 hr1 w1 hown hlen hBw1)
 go_wp2_with fail
 refine (uh HA).mono ?_
 rintro e w2 ⟨v',rfl,hown',o,hgrow⟩
 have hlt:b < w1.heap.size:=by
  rcases Nat.lt_or_ge b w1.heap.size with h' | h'
  ·exact h'
  ·simp[Array.getElem?_eq_none h'] at hbk
 have hb2:w2.heap[b]?=some (.cells #[.pointer (some ⟨b,0,none⟩),.slice va vn vc] 192 (0,0)):=by
  rw[hgrow.block b (by simp; omega) (fun e=>hne e.symm),Lib.alloc_old w1 _ b hlt]
  exact hbk
 have d0:w2.cell? ⟨b,0,none⟩=some (.pointer (some ⟨b,0,none⟩)):=by rw[yF hb2]; rfl
 have d1:w2.cell? ⟨b,1,none⟩=some (.slice va vn vc):=by rw[yF hb2]; rfl
 have f1:w2.frozen? ⟨b,1,none⟩=false:=yI hb2 1
 obtain⟨ao,n',cap,rfl⟩ : ∃ ao n' cap,v' = .slice ao n' cap:=by
  rcases hown'.2 with ⟨hv,_⟩ | ⟨g,cap,cur,hv,_⟩
  ·exact⟨_,_,_,hv⟩
  ·exact⟨_,_,_,hv⟩
 have P1:Hid (Lib.BuilderAt 192 5 B b (.pointer (some ⟨b,0,none⟩)) (bs++Lib.runeCells r) (w2.setCell ⟨b,1,none⟩ (.slice ao n' cap))):=Lib.BuilderAt.put (T:=192) (e:=5) hB hb2 (bs':=bs++Lib.runeCells r) (by simpa using hown') (by decide)
 have P2:Hid (Below B w (w2.setCell ⟨b,1,none⟩ (.slice ao n' cap))):=((hb1.alloc hBw1 _).grown hgrow (by simp; omega) (fun k hk=>(hown.lt k hk).1)).setCell (p:=⟨b,1,none⟩) hB _
 have P3:Hid (Lib.OthersKept 5 (some b) w (w2.setCell ⟨b,1,none⟩ (.slice ao n' cap))):=((hk1.alloc o).grown hgrow (zjd (hown.alloc _))).setCell ⟨b,1,none⟩ rfl _
 have e1:(w2.setCell ⟨b,1,none⟩ (.slice ao n' cap)).cell? ⟨b,1,none⟩=some (.slice ao n' cap):=by
  have:=heap_setCell_same w2 b 1 #[.pointer (some ⟨b,0,none⟩),.slice va vn vc] 192 (.slice ao n' cap) hb2
  rw[yF this]; rfl
 clear HA hown' hgrow hown hbk hb2 hb1 hk1
 go_wp2
 go_ret2
 exact⟨⟨_,rfl⟩,uh P1,uh P2,uh P3⟩
def pc (r:Nat) : List UInt8:=if r < 128 then qB (UInt8.ofNat r) else Lib.encodeRune r
theorem zwb (r:Nat) : (pc r).length<=6:=by
 unfold pc; split
 ·exact zuO _
 ·have:=Lib.encodeRuneZ_length r; simp[Lib.encodeRune]; omega
theorem zig {r:Nat} (h:r < 128) : pc r=qB (UInt8.ofNat r):=by unfold pc; rw[yg h]
theorem zb9 {r:Nat} (h:r < 256) : (UInt8.ofNat r).toNat=r:=by rw[UInt8.toNat_ofNat']; omega
abbrev OK5 (b:Nat) (w w':World) : Prop:=Lib.OthersKept 5 (some b) w w'
theorem zwc:∀ r:Fin 32,bits BinOp.and IntKind.i32 ((r.val:Nat) : Int) 15=((r.val % 16:Nat) : Int):=by decide +kernel
theorem zxW {r:Nat} (h:r < 32) : bits BinOp.and IntKind.i32 (r:Int) 15=((r % 16:Nat) : Int):=zwc ⟨r,h⟩
theorem zoD (B b:Nat) (l:List UInt8) (r:Nat) (w:World) (h:IsB B b l w) (hB:B<=w.heap.size) (hr:r<=1114111) (hl:l.length<=100000000) :
  Calls prog 328 #[.pointer (some ⟨b,0,none⟩),.int .i32 r] w fun e w'=>e = .returned (.tuple #[])/\IsB B b (l++pc r) w'/\Below B w w'/\OK5 b w w':=by
 have hq:(Lib.byteCells l).length<=100000000:=by rw[yK]; exact hl
 by_cases h32:32<=r
 ·by_cases e:r=34
  ·have HP:Hid (pc r=[92,34]):=by
    show _=_; rw[zig (by omega),zor (by rw[zb9 (by omega)]; omega)]; subst e; rfl
   have t34:((r:Int) == 34)=true:=by rw[yC]; omega
   clear e
   go_enter func328,ntmps328
   go_wp2_with fail
   refine (zaE B b _ _ _ h (by show _+2<=_; omega) hB).mono ?_
   rintro e w1 ⟨rfl,h1,b1,k1⟩
   have h1':=IsB.str (m:=[92,34]) rfl h1
   clear h1
   go_wp2
   go_end0
   exact⟨rfl,by rw[uh HP]; exact h1',b1,k1⟩
  ·by_cases e':r=92
   ·have e:=e'
    clear e'
    have HP:Hid (pc r=[92,92]):=by
     show _=_; rw[zig (by omega),zor (by rw[zb9 (by omega)]; omega)]; subst e; rfl
    have t34:((r:Int) == 34)=false:=by rw[yd]; omega
    have t92:((r:Int) == 92)=true:=by rw[yC]; omega
    clear e
    go_enter func328,ntmps328
    go_wp2_with fail
    refine (zaE B b _ _ _ h (by show _+2<=_; omega) hB).mono ?_
    rintro e w1 ⟨rfl,h1,b1,k1⟩
    have h1':=IsB.str (m:=[92,92]) rfl h1
    clear h1
    go_wp2
    go_end0
    exact⟨rfl,by rw[uh HP]; exact h1',b1,k1⟩
   ·have HP:Hid (Lib.runeCells r=Lib.byteCells (pc r)):=by
     show _=_
     by_cases h7:r < 128
     ·rw[zig h7,zsh (by rw[zb9 (by omega)]; exact e) (by rw[zb9 (by omega)]; exact e') (by rw[zb9 (by omega)]; exact h32)]
      unfold Lib.runeCells
      rw[Lib.encodeRuneZ_one (by omega) (by omega)]
      simp only[yi,List.map_nil,Lib.byteCells,zb9 (show r < 256 by omega)]
     ·unfold pc; rw[yf h7,Lib.byteCells_encodeRune]
    have t34:((r:Int) == 34)=false:=by rw[yd]; omega
    have t92:((r:Int) == 92)=false:=by rw[yd]; omega
    have t8:((r:Int) == 8)=false:=by rw[yd]; omega
    have t9:((r:Int) == 9)=false:=by rw[yd]; omega
    have t10:((r:Int) == 10)=false:=by rw[yd]; omega
    have t12:((r:Int) == 12)=false:=by rw[yd]; omega
    have t13:((r:Int) == 13)=false:=by rw[yd]; omega
    have t32:(32:Int)<=(r:Int):=by omega
    clear e e'
    go_enter func328,ntmps328
    go_wp2_with fail
    refine (zg2 B b _ (r:Int) (by omega) (by omega) _ h (by omega) hB).mono ?_
    rintro e w1 ⟨⟨n,rfl⟩,h1,b1,k1⟩
    have h1':=IsB.cells (uh HP) h1
    clear h1
    go_wp2
    try simp only[Exit.inBlock,Exit.then]
    refine bodyPost_ret (results_none rfl _ _ _) rfl ?_
    exact⟨rfl,h1',b1,k1⟩
 ·by_cases hc:Ctl r
  ·have HP:Hid (pc r=[92,117,48,48,zlT.getD (r / 16) 0,zlT.getD (r % 16) 0]):=by
    show _=_; rw[zig (by omega),zuQ (by rw[zb9 (by omega)]; exact hc),zb9 (by omega)]
   obtain⟨g1,g2,g3,g4,g5,g6⟩:=hc
   have t34:((r:Int) == 34)=false:=by rw[yd]; omega
   have t92:((r:Int) == 92)=false:=by rw[yd]; omega
   have t8:((r:Int) == 8)=false:=by rw[yd]; omega
   have t9:((r:Int) == 9)=false:=by rw[yd]; omega
   have t10:((r:Int) == 10)=false:=by rw[yd]; omega
   have t12:((r:Int) == 12)=false:=by rw[yd]; omega
   have t13:((r:Int) == 13)=false:=by rw[yd]; omega
   have t32:¬ (32:Int)<=(r:Int):=by omega
   obtain⟨q,hq16⟩ : ∃ q:Nat,q=r % 16:=⟨_,rfl⟩
   have hand:bits BinOp.and IntKind.i32 (r:Int) 15=(q:Int):=by rw[hq16]; exact zxW (by omega)
   have hqlt:q < 16:=by omega
   have hqlt':(q:Int) < 16:=by omega
   have hq0:(0:Int)<=(q:Int):=by omega
   rw[← hq16] at HP
   clear hq16
   go_enter func328,ntmps328
   go_wp2_with fail
   refine (zaE B b _ _ _ h (by show _+4<=_; omega) hB).mono ?_
   rintro e w1 ⟨rfl,h1,b1,k1⟩
   have h1':=IsB.str (m:=[92,117,48,48]) rfl h1
   have hw1:B<=w1.heap.size:=by have:=b1.size; omega
   clear h1
   go_wp2_with fail
   refine (zb8 B b _ _ _ h1' (by rw[yK]; simp; omega) hw1).mono ?_
   rintro e w2 ⟨rfl,h2,b2,k2⟩
   have h2':=IsB.byte (c:=zlT.getD (r / 16) 0) (congrArg (fun c:UInt8=>(c.toNat:Int)) (znk (r / 16) (by omega))) h2
   have hw2:B<=w2.heap.size:=by have:=b2.size; omega
   clear h2 h1'
   go_wp2_with fail
   refine (zb8 B b _ _ _ h2' (by rw[yK]; simp; omega) hw2).mono ?_
   rintro e w3 ⟨rfl,h3,b3,k3⟩
   have h3':=IsB.byte (c:=zlT.getD q 0) (congrArg (fun c:UInt8=>(c.toNat:Int)) (znk q hqlt)) h3
   have B3:=(b1.trans b2).trans b3
   have K3:=(k1.trans k2).trans k3
   clear h3 h2'
   go_wp2
   go_end0
   exact⟨rfl,by rw[uh HP]; simpa using h3',B3,K3⟩
  ·rcases (show r=8∨r=9∨r=10∨r=12∨r=13 from by unfold Ctl at hc; omega) with e | e | e | e | e
   ·have HP:Hid (pc r=[92,98]):=by
     show _=_; rw[zig (by omega),q_8 (by rw[zb9 (by omega)]; omega)]
    have t34:((r:Int) == 34)=false:=by rw[yd]; omega
    have t92:((r:Int) == 92)=false:=by rw[yd]; omega
    have t8:((r:Int) == 8)=true:=by rw[yC]; omega
    clear e
    go_enter func328,ntmps328
    go_wp2_with fail
    refine (zaE B b _ _ _ h (by show _+2<=_; omega) hB).mono ?_
    rintro e w1 ⟨rfl,h1,b1,k1⟩
    have h1':=IsB.str (m:=[92,98]) rfl h1
    clear h1
    go_wp2
    go_end0
    exact⟨rfl,by rw[uh HP]; exact h1',b1,k1⟩
   ·have HP:Hid (pc r=[92,116]):=by
     show _=_; rw[zig (by omega),q_9 (by rw[zb9 (by omega)]; omega)]
    have t34:((r:Int) == 34)=false:=by rw[yd]; omega
    have t92:((r:Int) == 92)=false:=by rw[yd]; omega
    have t8:((r:Int) == 8)=false:=by rw[yd]; omega
    have t9:((r:Int) == 9)=true:=by rw[yC]; omega
    clear e
    go_enter func328,ntmps328
    go_wp2_with fail
    refine (zaE B b _ _ _ h (by show _+2<=_; omega) hB).mono ?_
    rintro e w1 ⟨rfl,h1,b1,k1⟩
    have h1':=IsB.str (m:=[92,116]) rfl h1
    clear h1
    go_wp2
    go_end0
    exact⟨rfl,by rw[uh HP]; exact h1',b1,k1⟩
   ·have HP:Hid (pc r=[92,110]):=by
     show _=_; rw[zig (by omega),zxS (by rw[zb9 (by omega)]; omega)]
    have t34:((r:Int) == 34)=false:=by rw[yd]; omega
    have t92:((r:Int) == 92)=false:=by rw[yd]; omega
    have t8:((r:Int) == 8)=false:=by rw[yd]; omega
    have t9:((r:Int) == 9)=false:=by rw[yd]; omega
    have t10:((r:Int) == 10)=true:=by rw[yC]; omega
    clear e
    go_enter func328,ntmps328
    go_wp2_with fail
    refine (zaE B b _ _ _ h (by show _+2<=_; omega) hB).mono ?_
    rintro e w1 ⟨rfl,h1,b1,k1⟩
    have h1':=IsB.str (m:=[92,110]) rfl h1
    clear h1
    go_wp2
    go_end0
    exact⟨rfl,by rw[uh HP]; exact h1',b1,k1⟩
   ·have HP:Hid (pc r=[92,102]):=by
     show _=_; rw[zig (by omega),zxT (by rw[zb9 (by omega)]; omega)]
    have t34:((r:Int) == 34)=false:=by rw[yd]; omega
    have t92:((r:Int) == 92)=false:=by rw[yd]; omega
    have t8:((r:Int) == 8)=false:=by rw[yd]; omega
    have t9:((r:Int) == 9)=false:=by rw[yd]; omega
    have t10:((r:Int) == 10)=false:=by rw[yd]; omega
    have t12:((r:Int) == 12)=true:=by rw[yC]; omega
    clear e
    go_enter func328,ntmps328
    go_wp2_with fail
    refine (zaE B b _ _ _ h (by show _+2<=_; omega) hB).mono ?_
    rintro e w1 ⟨rfl,h1,b1,k1⟩
    have h1':=IsB.str (m:=[92,102]) rfl h1
    clear h1
    go_wp2
    go_end0
    exact⟨rfl,by rw[uh HP]; exact h1',b1,k1⟩
   ·have HP:Hid (pc r=[92,114]):=by
     show _=_; rw[zig (by omega),zxU (by rw[zb9 (by omega)]; omega)]
    have t34:((r:Int) == 34)=false:=by rw[yd]; omega
    have t92:((r:Int) == 92)=false:=by rw[yd]; omega
    have t8:((r:Int) == 8)=false:=by rw[yd]; omega
    have t9:((r:Int) == 9)=false:=by rw[yd]; omega
    have t10:((r:Int) == 10)=false:=by rw[yd]; omega
    have t12:((r:Int) == 12)=false:=by rw[yd]; omega
    have t13:((r:Int) == 13)=true:=by rw[yC]; omega
    clear e
    go_enter func328,ntmps328
    go_wp2_with fail
    refine (zaE B b _ _ _ h (by show _+2<=_; omega) hB).mono ?_
    rintro e w1 ⟨rfl,h1,b1,k1⟩
    have h1':=IsB.str (m:=[92,114]) rfl h1
    clear h1
    go_wp2
    go_end0
    exact⟨rfl,by rw[uh HP]; exact h1',b1,k1⟩
theorem znq {T e:TypeId} {B b:Nat} {p:Value} {bs:List Value} {w:World} (h:Lib.BuilderAt T e B b p bs w) {k:Nat} {s:ByteArray} {pos:Nat} (hk:w.heap[k]?=some (.stringIter s pos)) (pos':Nat) : Lib.BuilderAt T e B b p bs (w.iterAt k s pos'):=by
 obtain⟨hB,v,hb,hown,hne⟩:=h
 have hkb:b≠k:=by
  intro e1
  rw[e1,hk] at hb
  cases hb
 refine⟨hB,v,(Lib.iterAt_other w k b s pos' hkb).trans hb,⟨hown.1,?_⟩,hne⟩
 rcases hown.2 with hn | ⟨g,cap,cur,hv,hbg,hg,rest⟩
 ·exact .inl hn
 ·have hkg:g≠k:=by
   intro e1
   rw[e1,hk] at hg
   cases hg
  exact .inr ⟨g,cap,cur,hv,hbg,(Lib.iterAt_other w k g s pos' hkg).trans hg,rest⟩
theorem IsB.iterAt {B b:Nat} {l:List UInt8} {w:World} (h:IsB B b l w) {k:Nat} {s:ByteArray} {pos:Nat} (hk:w.heap[k]?=some (.stringIter s pos)) (pos':Nat) : IsB B b l (w.iterAt k s pos'):=
 h.elim (fun x=>.inl (znq x hk pos')) (fun x=>.inr (znq x hk pos'))
theorem IsB.alloc {B b:Nat} {l:List UInt8} {w:World} (h:IsB B b l w) (o:Obj) : IsB B b l (w.alloc o):=by
 have g:∀ p,Lib.BuilderAt 192 5 B b p (Lib.byteCells l) w->Lib.BuilderAt 192 5 B b p (Lib.byteCells l) (w.alloc o):=by
  rintro p ⟨hB,v,hb,hown,hne⟩
  exact⟨hB,v,(Lib.alloc_old w o b (yB.1 hb).1).trans hb,hown.alloc o,hne⟩
 exact h.elim (fun x=>.inl (g _ x)) (fun x=>.inr (g _ x))
theorem IsB.lt {B b:Nat} {l:List UInt8} {w:World} (h:IsB B b l w) : b < w.heap.size:=h.elim (fun x=>x.lt) (fun x=>x.lt)
def zdb (s:ByteArray) : Nat->Nat->List UInt8
 | 0,_=>[]
 | f+1,pos=>if pos < s.size then pc (Utf8.decode s pos).1++zdb s f (pos+(Utf8.decode s pos).2) else []
def rs (s:ByteArray) : List UInt8:=zdb s s.size 0
theorem zoE (s:ByteArray) (f pos:Nat) (h:¬ pos < s.size) : zdb s f pos=[]:=by
 cases f with
 | zero=>rfl
 | succ f=>simp[zdb,h]
theorem zwd (s:ByteArray) (pos:Nat) : (Utf8.decode s pos).1<=1114111:=by
 rw[dec]; exact Lib.decodeN_rune_le _ _ _ _ _ (zb1 s pos)
theorem zss {b k:Nat} {a w:World} (h:OK5 b a w) (hk:a.heap.size<=k) (s:ByteArray) (pos:Nat) : OK5 b a (w.iterAt k s pos):=fun i o hi hb ho=>by
 have hlt:i < a.heap.size:=(yB.1 hi).1
 have hbl:=Lib.below_iterAt (yH k w) (k:=k) (ye _) s pos
 rw[hbl.block i (by omega)]
 exact h i o hi hb ho
theorem zdz (B b:Nat) (l:List UInt8) (s:ByteArray) (w:World) (h:IsB B b l w) (hB:B<=w.heap.size) (hl:l.length<=10000000) (hs:s.size<=10000000) :
  Calls prog 325 #[.string s,.pointer (some ⟨b,0,none⟩)] w fun e w'=>e = .returned (.tuple #[])/\IsB B b (l++34 :: (rs s++[34])) w'/\Below B w w'/\OK5 b w w':=by
 have hq:(Lib.byteCells l).length<=10000000:=by rw[yK]; exact hl
 have hbB:B<=b:=h.elim (fun x=>x.1) (fun x=>x.1)
 have hblt:=h.lt
 go_enter func325,ntmps325
 go_wp2_with fail
 refine (zb8 B b _ 34 _ h (by omega) hB).mono ?_
 rintro e w1 ⟨rfl,h1,b1,k1⟩
 have hs1:=b1.size
 have H1:Hid (IsB B b (l++[34]) (w1.alloc (.stringIter s 0))):=(IsB.byte (c:=34) rfl h1).alloc _
 have hblt1:b < w1.heap.size:=Lib.BuilderAt.lt h1
 have K1:Hid (OK5 b w (w1.alloc (.stringIter s 0))):=Lib.OthersKept.alloc k1 _
 clear h1 k1 h
 go_wp2
 go_loopw [] (fun wr=>∃ (pos fuel:Nat) (acc:List UInt8),IsB B b acc wr/\wr.heap[w1.heap.size]?=some (.stringIter s pos)/\Below B w wr/\OK5 b w wr/\acc++zdb s fuel pos=l++34 :: rs s/\s.size<=pos+fuel/\acc.length<=l.length+1+6*pos) (fun wr=>s.size - wr.iterPos w1.heap.size)
 case atStart=>
  refine⟨0,s.size,l++[34],uh H1,?_,b1.alloc (by omega) _,uh K1,by simp[rs],by omega,by simp⟩
  exact yG w1 _
 case round=>
  obtain⟨pos,fuel,acc,hI,hit,hbw,hok,hacc,hfu,hal⟩:=hrel
  have hsz:w1.heap.size < wr.heap.size:=(yB.1 hit).1
  clear H1 K1
  have HOK:=zab hok
  clear hok
  by_cases hp:pos < s.size
  ·have hnx:∀ ty,(Instr.next (.pointer (some ⟨w1.heap.size,0,none⟩)) true ty).run prog wr=_:=fun ty=>Lib.run_next_any_at wr w1.heap.size s pos ty hit hp
   have hwd:=Lib.decode_width_pos s pos hp
   have hd1:=zwd s pos
   have hpc:=zwb (Utf8.decode s pos).1
   have hI2:=hI.iterAt hit (pos+(Utf8.decode s pos).2)
   have hit2:=Lib.iterAt_heap wr w1.heap.size s pos (pos+(Utf8.decode s pos).2) hit
   have hbw2:=Lib.below_iterAt hbw (k:=w1.heap.size) (by omega) s (pos+(Utf8.decode s pos).2)
   have hsz2:B<=(wr.iterAt w1.heap.size s (pos+(Utf8.decode s pos).2)).heap.size:=by rw[Lib.iterAt_size]; omega
   obtain⟨f,rfl⟩ : ∃ f,fuel=f+1:=⟨fuel - 1,by omega⟩
   have HA:Hid ((acc++pc (Utf8.decode s pos).1)++zdb s f (pos+(Utf8.decode s pos).2)=l++34 :: rs s):=by
    show _=_; rw[← hacc]; simp[zdb,hp]
   have HC:=zab (zoD B b acc (Utf8.decode s pos).1 (wr.iterAt w1.heap.size s (pos+(Utf8.decode s pos).2)) hI2 hsz2 hd1 (by omega))
   have HIT2:=zab hit2
   have HIT:=zab hit
   have HBW2:=zab hbw2
   clear hacc hI hI2 hit2 hbw2 hsz2
   go_wp2_with fail
   refine (uh HC).mono ?_
   rintro e W1 ⟨rfl,h1,b2,k2⟩
   go_wp2
   go_roundw
   case rel=>exact⟨pos+(Utf8.decode s pos).2,f,acc++pc (Utf8.decode s pos).1,h1,k2.iter (uh HIT2) (by omega),(uh HBW2).trans b2,(zss (uh HOK) (by omega) _ _).trans k2,uh HA,by omega,by rw[yh]; omega⟩
   case measure=>
    simp only[World.iterPos,k2.iter (uh HIT2) (by omega),uh HIT]
    omega
  ·have hnx:∀ ty,(Instr.next (.pointer (some ⟨w1.heap.size,0,none⟩)) true ty).run prog wr=_:=fun ty=>Lib.run_next_end_at wr w1.heap.size s pos ty hit hp
   rw[zoE s fuel pos hp,List.append_nil] at hacc
   have HA:=zab hacc
   have hal2:(Lib.byteCells acc).length<=100000000:=by
    rw[yK,hacc]
    have hf:∀ f pos,(zdb s f pos).length<=6*f:=by
     intro f
     induction f with
     | zero=>intro pos; simp[zdb]
     | succ f ih=>
      intro pos
      rw[zdb]; split
      ·rw[yh]; have:=ih (pos+(Utf8.decode s pos).2); have:=zwb (Utf8.decode s pos).1; omega
      ·simp
    have:=hf s.size 0
    simp[rs]; omega
   clear hacc
   go_wp2_with fail
   refine (zb8 B b _ 34 _ hI (by omega) (by omega)).mono ?_
   rintro e W1 ⟨rfl,h1,b2,k2⟩
   have h1':=IsB.byte (c:=34) rfl h1
   go_wp2
   go_end0
   refine⟨rfl,?_,hbw.trans b2,(uh HOK).trans k2⟩
   rw[uh HA] at h1'
   simpa using h1'
end Go.Proofs.YtekpghcckdjnhaaGreatDoor
