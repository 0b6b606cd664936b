import Derived.Test.YtekpghcckdjnhaaGreatDoorBa1
set_option maxRecDepth 100000
set_option maxHeartbeats 8000000
namespace Go.Proofs.YtekpghcckdjnhaaGreatDoor
open Go.RowKit Go.Proofs.Tryz
theorem zcF {P:Program} {ops:Array Oper} {o:Oper} {a:Act} {w:World} {K:Act->World->Prop} {Q:Exit->Act->World->Prop} {E:Prop}
  (hg:o.guard=none) (s x:Operand) (t:TypeId) (hop:o.op=Op.call { callee:=Callee.builtin Builtin.append,args:=#[s,x],argTypes:=#[t,t] })
  (base:Nat) (e:TypeId) (i:TypeInfo) (z:Value) (size bytes:Nat) (ht:P.underlying t=some (.slice e)) (hi:P.info? e=some i) (hz:i.zero=some z)
  (hsize:i.size=size) (hby:i.bytes=bytes) (hzs:z.cells.size=size) (hsz:0 < size)
  (v:Value) (n:Nat) (xs:List Value) (hs:a.eval s=v) (hown:w.ownsRow base e size v n xs)
  (ad:Addr) (m c:Nat) (news:List Value) (hx:a.eval x = .slice (some ad) m c) (hl:news.length=m*size) (hnews:∀ j u,news[j]?=some u->w.cell? (ad.add j)=some u) (h1:∀ u∈news,u.oneCell'=true)
  (h63:n+m<=maxLen) (hbytes:(n+m)*bytes<=140737488355328) (hbase:base<=w.heap.size)
  (hK:∀ v' w',w'.ownsRow base e size v' (n+m) (xs++news)->w.grownBy w' v.ownBlock->K (a.put o.dst v') w') :
  if Region.wanted o (yielded ops a.tmps)=true then Oper.wp P o a w K Q else E:=by
 have hw:Region.wanted o (yielded ops a.tmps)=true:=by simp[Region.wanted,hg]
 rw[yg hw]
 exact wp_append_own w s x t hop base e i z size bytes ht hi hz hsize hby hzs hsz v n xs hs hown ad m c news hx hl hnews h1 h63 hbytes hbase fun v' w' h2 h3 _=>hK v' w' h2 h3
theorem zyH (w:World) (t:TypeId) (xs:List Value) : ∀ j u,xs[j]?=some u->(w.alloc (.cells xs.toArray t)).cell? ((⟨w.heap.size,0,none⟩ : Addr).add j)=some u:=by
 intro j u hj
 rw[Go.WideShapes.add_plain,cell_of_row _ w.heap.size (0+j) xs.toArray t (0,0) (yG w _),Nat.zero_add]
 simpa using hj
theorem zyI (ks:List Int) : ∀ u∈ks.map (Value.int .u8),u.oneCell'=true:=by
 intro u hu; obtain⟨k,_,rfl⟩:=yO.1 hu; rfl
theorem zgY (s:ByteArray) (w:World) (hs:s.size<=1048576) :
  Calls prog 117 #[.string s] w fun e w'=>e = .returned (.string (zac (quoted s.data.toList)))/\Below w.heap.size w w':=by
 obtain⟨i0,hi,hz0,hz1,hz2⟩:=info_parts zkj
 go_enter func117,ntmps117
 go_wp2
 go_loopw [4,5] (fun v i wr=>∃ (j:Nat) (p:List UInt8),j<=s.size/\i = .int .i64 j/\p=34 :: qs (s.data.toList.take j)/\wr.ownsRow w.heap.size 5 1 v (Lib.byteCells p).length (Lib.byteCells p)/\Below w.heap.size w wr) (fun _ i _=>s.size - (intOf i).toNat)
 case atStart=>exact⟨0,[34],yt _,rfl,rfl,World.ownsRow_lit w #[.int .u8 34] 1 (ye _) (by unfold maxLen; omega) rfl,(yH _ _).alloc (ye _) _⟩
 case round=>
  obtain⟨j,p,hj,rfl,hp,hown,hb⟩:=hrel
  have hwsz:=hb.size
  have hpl:p.length<=1+6*j:=by
   have h1:=zv8 (s.data.toList.take j)
   have h5:(s.data.toList.take j).length=j:=by rw[ym,zak]; omega
   rw[hp,yn]; omega
  have hq:(Lib.byteCells p).length<=1+6*j:=by rw[yK]; exact hpl
  have HB:=zab hb
  clear hb
  by_cases hjs:j < s.size
  ·have HN:Hid (34 :: qs (s.data.toList.take (j+1))=p++qB s[j]):=by
    show _=_; rw[hp,zfP s j hjs,zuP]; rfl
   clear hp hpl
   have hcb:s[j].toNat < 256:=UInt8.toNat_lt _
   by_cases hctl:Ctl s[j].toNat
   ·have HE:=zab (zuQ hctl)
    obtain⟨g1,g2,g3,g4,g5,g6⟩:=hctl
    have t1:((s[j].toNat:Int) == 34)=false:=by rw[yd]; omega
    have t2:((s[j].toNat:Int) == 92)=false:=by rw[yd]; omega
    have t3:((s[j].toNat:Int) == 8)=false:=by rw[yd]; omega
    have t4:((s[j].toNat:Int) == 9)=false:=by rw[yd]; omega
    have t5:((s[j].toNat:Int) == 10)=false:=by rw[yd]; omega
    have t6:((s[j].toNat:Int) == 12)=false:=by rw[yd]; omega
    have t7:((s[j].toNat:Int) == 13)=false:=by rw[yd]; omega
    have t8:(s[j].toNat:Int) < 32:=by omega
    have t9:(0:Int)<=(s[j].toNat:Int):=by omega
    have hexE:Hid (({ data:=#[48,49,50,51,52,53,54,55,56,57,97,98,99,100,101,102] } : ByteArray)=⟨zlT.toArray⟩):=rfl
    have hexZ:({ data:=#[48,49,50,51,52,53,54,55,56,57,97,98,99,100,101,102] } : ByteArray).size=16:=rfl
    generalize ({ data:=#[48,49,50,51,52,53,54,55,56,57,97,98,99,100,101,102] } : ByteArray)=hx at *
    obtain⟨a,ha⟩ : ∃ a:Nat,a=s[j].toNat / 16:=⟨_,rfl⟩
    obtain⟨b,hb⟩ : ∃ b:Nat,b=s[j].toNat % 16:=⟨_,rfl⟩
    have wa:IntKind.u8.wrap ((s[j].toNat:Int) / 16)=(a:Int):=by rw[IntKind.wrap_u8]; omega
    have wb:IntKind.u8.wrap (b:Int)=(b:Int):=by rw[IntKind.wrap_u8]; omega
    have wb2:(s[j].toNat:Int).tmod 16=(b:Int):=by rw[Int.tmod_eq_emod_of_nonneg (by omega)]; omega
    have lb0:(0:Int)<=(b:Int):=by omega
    have la:(a:Int) < 16:=by omega
    have lb:(b:Int) < 16:=by omega
    have la':a < 16:=by omega
    have lb':b < 16:=by omega
    have pa:a < hx.size:=by omega
    have pb:b < hx.size:=by omega
    have HXA:Hid (hx[a]'pa=zlT.getD (s[j].toNat / 16) 0):=by
     have e:=uh hexE
     subst e; subst ha
     exact znk _ la'
    have HXB:Hid (hx[b]'pb=zlT.getD (s[j].toNat % 16) 0):=by
     have e:=uh hexE
     subst e; subst hb
     exact znk _ lb'
    rw[← uh HXA,← uh HXB] at HE
    clear ha hb hexE HXA HXB
    go_wp2
    go_region_law (refine zcF rfl (.tmp 54) (.tmp 63) 160 rfl w.heap.size 5 i0 (.int .u8 0) 1 1 underlying160 hi hz0 hz1 hz2 rfl (by decide) _ _ _ rfl (by exact hown.alloc _) ⟨wr.heap.size,0,none⟩ 6 6 [.int .u8 92,.int .u8 117,.int .u8 48,.int .u8 48,.int .u8 (hx[a]'pa).toNat,.int .u8 (hx[b]'pb).toNat] rfl (by rfl) (by exact zyH _ _ _) (by exact zyI [92,117,48,48,((hx[a]'pa).toNat:Int),((hx[b]'pb).toNat:Int)]) (by unfold maxLen; omega) (by omega) (by simp; omega) ?_; intro v2 w2 hown2 hgrow2)
    all_goals
     have hb2:Below w.heap.size w w2:=((uh HB).alloc hwsz _).drew.grown hgrow2 (by simp; omega) (fun k hk=>(hown.lt k hk).1)
     have hown2':=zaI (m:=[92,117,48,48,hx[a]'pa,hx[b]'pb]) hown2 (by simp[Lib.byteCells]) rfl
     clear hown2 hgrow2 hown HB hq
     go_wp2
     go_roundw
    all_goals first
     | exact⟨j+1,p++[92,117,48,48,hx[a]'pa,hx[b]'pb],by omega,by go_num,by rw[uh HN,uh HE],hown2',hb2⟩
     | (simp[intOf]; omega)
   ·by_cases h34:s[j].toNat=34
    ·have HE:=zab (zor (c:=s[j]) (by omega))
     have t34:((s[j].toNat:Int) == 34)=true:=by rw[yC]; omega
     clear h34 hctl
     go_wp2_with (at_builtin; refine wpList_append_own _ rfl (.tmp 23) (.tmp 25) 160 rfl w.heap.size 5 i0 (.int .u8 0) 1 1 underlying160 hi hz0 hz1 hz2 rfl (by decide) _ _ _ rfl (hown.alloc _) ⟨wr.heap.size,0,none⟩ 2 2 [.int .u8 92,.int .u8 s[j].toNat] rfl rfl (ztZ _ _ _ _ ) (zuN _ _ _ ) (by unfold maxLen; omega) (by omega) (by simp; omega) ?_)
     intro v2 w2 hown2 hgrow2 _
     have hb2:Below w.heap.size w w2:=((uh HB).alloc hwsz _).grown hgrow2 (by simp; omega) (fun k hk=>(hown.lt k hk).1)
     have hown2':=zaI (m:=[92,s[j]]) hown2 (by simp[Lib.byteCells]) rfl
     clear hown2 hgrow2 hown HB hq
     go_wp2
     go_roundw
     case rel=>exact⟨j+1,p++[92,s[j]],by omega,by go_num,by rw[uh HN,uh HE],hown2',hb2⟩
     case measure=>simp[intOf]; omega
    ·by_cases h92:s[j].toNat=92
     ·have HE:=zab (zor (c:=s[j]) (by omega))
      have t34:((s[j].toNat:Int) == 34)=false:=by rw[yd]; omega
      have t92:((s[j].toNat:Int) == 92)=true:=by rw[yC]; omega
      clear h34 h92 hctl
      go_wp2_with (at_builtin; refine wpList_append_own _ rfl (.tmp 23) (.tmp 25) 160 rfl w.heap.size 5 i0 (.int .u8 0) 1 1 underlying160 hi hz0 hz1 hz2 rfl (by decide) _ _ _ rfl (hown.alloc _) ⟨wr.heap.size,0,none⟩ 2 2 [.int .u8 92,.int .u8 s[j].toNat] rfl rfl (ztZ _ _ _ _ ) (zuN _ _ _ ) (by unfold maxLen; omega) (by omega) (by simp; omega) ?_)
      intro v2 w2 hown2 hgrow2 _
      have hb2:Below w.heap.size w w2:=((uh HB).alloc hwsz _).grown hgrow2 (by simp; omega) (fun k hk=>(hown.lt k hk).1)
      have hown2':=zaI (m:=[92,s[j]]) hown2 (by simp[Lib.byteCells]) rfl
      clear hown2 hgrow2 hown HB hq
      go_wp2
      go_roundw
      case rel=>exact⟨j+1,p++[92,s[j]],by omega,by go_num,by rw[uh HN,uh HE],hown2',hb2⟩
      case measure=>simp[intOf]; omega
     ·by_cases h8:s[j].toNat=8
      ·have HE:=zab (q_8 (c:=s[j]) (by omega))
       have t34:((s[j].toNat:Int) == 34)=false:=by rw[yd]; omega
       have t92:((s[j].toNat:Int) == 92)=false:=by rw[yd]; omega
       have t8:((s[j].toNat:Int) == 8)=true:=by rw[yC]; omega
       go_wp2_with (at_builtin; refine wpList_append_own _ rfl (.tmp 29) (.tmp 30) 160 rfl w.heap.size 5 i0 (.int .u8 0) 1 1 underlying160 hi hz0 hz1 hz2 rfl (by decide) _ _ _ rfl (hown.alloc _) ⟨wr.heap.size,0,none⟩ 2 2 [.int .u8 92,.int .u8 98] rfl rfl (ztZ _ _ _ _ ) (zuN _ _ _ ) (by unfold maxLen; omega) (by omega) (by simp; omega) ?_)
       intro v2 w2 hown2 hgrow2 _
       have hb2:Below w.heap.size w w2:=((uh HB).alloc hwsz _).grown hgrow2 (by simp; omega) (fun k hk=>(hown.lt k hk).1)
       have hown2':=zaI (m:=[92,98]) hown2 (by simp[Lib.byteCells]) rfl
       clear hown2 hgrow2 hown HB hq
       go_wp2
       go_roundw
       case rel=>exact⟨j+1,p++[92,98],by omega,by go_num,by rw[uh HN,uh HE],hown2',hb2⟩
       case measure=>simp[intOf]; omega
      ·by_cases h9:s[j].toNat=9
       ·have HE:=zab (q_9 (c:=s[j]) (by omega))
        have t34:((s[j].toNat:Int) == 34)=false:=by rw[yd]; omega
        have t92:((s[j].toNat:Int) == 92)=false:=by rw[yd]; omega
        have t8:((s[j].toNat:Int) == 8)=false:=by rw[yd]; omega
        have t9:((s[j].toNat:Int) == 9)=true:=by rw[yC]; omega
        go_wp2_with (at_builtin; refine wpList_append_own _ rfl (.tmp 34) (.tmp 35) 160 rfl w.heap.size 5 i0 (.int .u8 0) 1 1 underlying160 hi hz0 hz1 hz2 rfl (by decide) _ _ _ rfl (hown.alloc _) ⟨wr.heap.size,0,none⟩ 2 2 [.int .u8 92,.int .u8 116] rfl rfl (ztZ _ _ _ _ ) (zuN _ _ _ ) (by unfold maxLen; omega) (by omega) (by simp; omega) ?_)
        intro v2 w2 hown2 hgrow2 _
        have hb2:Below w.heap.size w w2:=((uh HB).alloc hwsz _).grown hgrow2 (by simp; omega) (fun k hk=>(hown.lt k hk).1)
        have hown2':=zaI (m:=[92,116]) hown2 (by simp[Lib.byteCells]) rfl
        clear hown2 hgrow2 hown HB hq
        go_wp2
        go_roundw
        case rel=>exact⟨j+1,p++[92,116],by omega,by go_num,by rw[uh HN,uh HE],hown2',hb2⟩
        case measure=>simp[intOf]; omega
       ·by_cases h10:s[j].toNat=10
        ·have HE:=zab (zxS (c:=s[j]) (by omega))
         have t34:((s[j].toNat:Int) == 34)=false:=by rw[yd]; omega
         have t92:((s[j].toNat:Int) == 92)=false:=by rw[yd]; omega
         have t8:((s[j].toNat:Int) == 8)=false:=by rw[yd]; omega
         have t9:((s[j].toNat:Int) == 9)=false:=by rw[yd]; omega
         have t10:((s[j].toNat:Int) == 10)=true:=by rw[yC]; omega
         go_wp2_with (at_builtin; refine wpList_append_own _ rfl (.tmp 39) (.tmp 40) 160 rfl w.heap.size 5 i0 (.int .u8 0) 1 1 underlying160 hi hz0 hz1 hz2 rfl (by decide) _ _ _ rfl (hown.alloc _) ⟨wr.heap.size,0,none⟩ 2 2 [.int .u8 92,.int .u8 110] rfl rfl (ztZ _ _ _ _ ) (zuN _ _ _ ) (by unfold maxLen; omega) (by omega) (by simp; omega) ?_)
         intro v2 w2 hown2 hgrow2 _
         have hb2:Below w.heap.size w w2:=((uh HB).alloc hwsz _).grown hgrow2 (by simp; omega) (fun k hk=>(hown.lt k hk).1)
         have hown2':=zaI (m:=[92,110]) hown2 (by simp[Lib.byteCells]) rfl
         clear hown2 hgrow2 hown HB hq
         go_wp2
         go_roundw
         case rel=>exact⟨j+1,p++[92,110],by omega,by go_num,by rw[uh HN,uh HE],hown2',hb2⟩
         case measure=>simp[intOf]; omega
        ·by_cases h12:s[j].toNat=12
         ·have HE:=zab (zxT (c:=s[j]) (by omega))
          have t34:((s[j].toNat:Int) == 34)=false:=by rw[yd]; omega
          have t92:((s[j].toNat:Int) == 92)=false:=by rw[yd]; omega
          have t8:((s[j].toNat:Int) == 8)=false:=by rw[yd]; omega
          have t9:((s[j].toNat:Int) == 9)=false:=by rw[yd]; omega
          have t10:((s[j].toNat:Int) == 10)=false:=by rw[yd]; omega
          have t12:((s[j].toNat:Int) == 12)=true:=by rw[yC]; omega
          go_wp2_with (at_builtin; refine wpList_append_own _ rfl (.tmp 44) (.tmp 45) 160 rfl w.heap.size 5 i0 (.int .u8 0) 1 1 underlying160 hi hz0 hz1 hz2 rfl (by decide) _ _ _ rfl (hown.alloc _) ⟨wr.heap.size,0,none⟩ 2 2 [.int .u8 92,.int .u8 102] rfl rfl (ztZ _ _ _ _ ) (zuN _ _ _ ) (by unfold maxLen; omega) (by omega) (by simp; omega) ?_)
          intro v2 w2 hown2 hgrow2 _
          have hb2:Below w.heap.size w w2:=((uh HB).alloc hwsz _).grown hgrow2 (by simp; omega) (fun k hk=>(hown.lt k hk).1)
          have hown2':=zaI (m:=[92,102]) hown2 (by simp[Lib.byteCells]) rfl
          clear hown2 hgrow2 hown HB hq
          go_wp2
          go_roundw
          case rel=>exact⟨j+1,p++[92,102],by omega,by go_num,by rw[uh HN,uh HE],hown2',hb2⟩
          case measure=>simp[intOf]; omega
         ·by_cases h13:s[j].toNat=13
          ·have HE:=zab (zxU (c:=s[j]) (by omega))
           have t34:((s[j].toNat:Int) == 34)=false:=by rw[yd]; omega
           have t92:((s[j].toNat:Int) == 92)=false:=by rw[yd]; omega
           have t8:((s[j].toNat:Int) == 8)=false:=by rw[yd]; omega
           have t9:((s[j].toNat:Int) == 9)=false:=by rw[yd]; omega
           have t10:((s[j].toNat:Int) == 10)=false:=by rw[yd]; omega
           have t12:((s[j].toNat:Int) == 12)=false:=by rw[yd]; omega
           have t13:((s[j].toNat:Int) == 13)=true:=by rw[yC]; omega
           go_wp2_with (at_builtin; refine wpList_append_own _ rfl (.tmp 49) (.tmp 50) 160 rfl w.heap.size 5 i0 (.int .u8 0) 1 1 underlying160 hi hz0 hz1 hz2 rfl (by decide) _ _ _ rfl (hown.alloc _) ⟨wr.heap.size,0,none⟩ 2 2 [.int .u8 92,.int .u8 114] rfl rfl (ztZ _ _ _ _ ) (zuN _ _ _ ) (by unfold maxLen; omega) (by omega) (by simp; omega) ?_)
           intro v2 w2 hown2 hgrow2 _
           have hb2:Below w.heap.size w w2:=((uh HB).alloc hwsz _).grown hgrow2 (by simp; omega) (fun k hk=>(hown.lt k hk).1)
           have hown2':=zaI (m:=[92,114]) hown2 (by simp[Lib.byteCells]) rfl
           clear hown2 hgrow2 hown HB hq
           go_wp2
           go_roundw
           case rel=>exact⟨j+1,p++[92,114],by omega,by go_num,by rw[uh HN,uh HE],hown2',hb2⟩
           case measure=>simp[intOf]; omega
          ·have h32:32<=s[j].toNat:=by unfold Ctl at hctl; omega
           have HE:=zab (zsh (c:=s[j]) h34 h92 h32)
           have t32:¬ (s[j].toNat:Int) < 32:=by omega
           have t34:((s[j].toNat:Int) == 34)=false:=by rw[yd]; omega
           have t92:((s[j].toNat:Int) == 92)=false:=by rw[yd]; omega
           have t8:((s[j].toNat:Int) == 8)=false:=by rw[yd]; omega
           have t9:((s[j].toNat:Int) == 9)=false:=by rw[yd]; omega
           have t10:((s[j].toNat:Int) == 10)=false:=by rw[yd]; omega
           have t12:((s[j].toNat:Int) == 12)=false:=by rw[yd]; omega
           have t13:((s[j].toNat:Int) == 13)=false:=by rw[yd]; omega
           go_wp2_with (at_builtin; refine wpList_append_own _ rfl (.tmp 65) (.tmp 67) 160 rfl w.heap.size 5 i0 (.int .u8 0) 1 1 underlying160 hi hz0 hz1 hz2 rfl (by decide) _ _ _ rfl (hown.alloc _) ⟨wr.heap.size,0,none⟩ 1 1 [.int .u8 s[j].toNat] rfl rfl (zlZ _ _ _ ) (zsg _ _ ) (by unfold maxLen; omega) (by omega) (by simp; omega) ?_)
           intro v2 w2 hown2 hgrow2 _
           have hb2:Below w.heap.size w w2:=((uh HB).alloc hwsz _).grown hgrow2 (by simp; omega) (fun k hk=>(hown.lt k hk).1)
           have hown2':=zaI (m:=[s[j]]) hown2 (by simp[Lib.byteCells]) rfl
           clear hown2 hgrow2 hown HB hq
           go_wp2
           go_roundw
           case rel=>exact⟨j+1,p++[s[j]],by omega,by go_num,by rw[uh HN,uh HE],hown2',hb2⟩
           case measure=>simp[intOf]; omega
  ·have hje:j=s.size:=by omega
   subst hje
   rw[zpG] at hp
   have HP:Hid (quoted s.data.toList=p++[34]):=by show _=_; rw[hp]; rfl
   clear hp
   go_wp2_with (at_builtin; refine wpList_append_own _ rfl (.tmp 69) (.tmp 70) 160 rfl w.heap.size 5 i0 (.int .u8 0) 1 1 underlying160 hi hz0 hz1 hz2 rfl (by decide) _ _ _ rfl (hown.alloc _) ⟨wr.heap.size,0,none⟩ 1 1 [.int .u8 34] rfl rfl (zlZ _ _ _) (zsg _ _) (by unfold maxLen; omega) (by omega) (by simp; omega) ?_)
   intro v2 w2 hown2 hgrow2 _
   have hb2:Below w.heap.size w w2:=((uh HB).alloc hwsz _).grown hgrow2 (by simp; omega) (fun k hk=>(hown.lt k hk).1)
   have hown2':=zaI (m:=[34]) hown2 (by simp[Lib.byteCells]) rfl
   have hcv:=zb7 hown2'
   clear hown2 hgrow2 hown HB hq hown2'
   go_wp2
   go_ret
   exact⟨by rw[uh HP]; rfl,hb2⟩
end Go.Proofs.YtekpghcckdjnhaaGreatDoor
