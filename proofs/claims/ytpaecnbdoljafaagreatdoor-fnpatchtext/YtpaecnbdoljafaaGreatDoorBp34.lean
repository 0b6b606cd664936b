import Derived.Stop.LaidErr
import Derived.PinnedBridge
import Derived.Test.YtpaecnbdoljafaaGreatDoorBp25
import Derived.Test.YtpaecnbdoljafaaGreatDoorBp20
namespace Go.Proofs.YtpaecnbdoljafaaGreatDoor
open Go.RowKit Go.Shelf Go.Lib Go.Proofs.Tryz
abbrev Xw : List (String × DataW Unit) := [("math/bits.deBruijn32tab", Rows.laid_math_bits_deBruijn32tab), ("math/bits.deBruijn64tab", Rows.laid_math_bits_deBruijn64tab), ("internal/strconv.uint64pow10", Rows.laid_internal_strconv_uint64pow10), ("unicode/utf8.acceptRanges", Rows.laid_unicode_utf8_acceptRanges), ("strconv.ErrRange", Rows.laid_strconv_ErrRange), ("strconv.ErrSyntax", Rows.laid_strconv_ErrSyntax), ("unicode/utf8.first", Rows.laid_unicode_utf8_first)]
theorem AR{W:Wo}(h:laidMet prog Xw W):VY W:=by
 refine utf8Tabs_of_readsT ⟨Tryz.laysDecode.t5,Tryz.laysDecode.t119,Tryz.laysDecode.t138,Tryz.laysDecode.t139⟩ ⟨by kernel_rfl,by kernel_rfl,by kernel_rfl,by kernel_rfl,by kernel_rfl,by kernel_rfl,by kernel_rfl⟩ ?_ ?_
 ·have a:=Lib.laidMet.reads h (d:=Rows.laid_unicode_utf8_first) (.tail _ (.tail _ (.tail _ (.tail _ (.tail _ (.tail _ (.head _)))))));rw[show Rows.laid_unicode_utf8_first=firstData from Pinned.utf8First_eq]at a;exact a
 ·have a:=Lib.laidMet.reads h (d:=Rows.laid_unicode_utf8_acceptRanges) (.tail _ (.tail _ (.tail _ (.head _))));rw[show (Rows.laid_unicode_utf8_acceptRanges:DataW Unit)=acceptData from by kernel_rfl]at a;exact a
theorem LN{W:Wo}{n:String}{g:Nat}{cs:Array Value}(hg:prog.globalNamed n=some g)(h:W.var? prog n=some cs):g<W.heap.size:=by
 unfold World.var? at h;rw[hg]at h;simp only[yz]at h;rcases Nat.lt_or_ge g W.heap.size with a | a
 ·exact a
 ·rw[Array.getElem?_eq_none a]at h;cases h
theorem AU{W:Wo}(h:laidMet prog Xw W):Qx W.heap.size W:=by
 have h3 : laidMet Tryz.prog (("internal/strconv.uint64pow10", Lib.tabData .u64 Lib.pow10Tab) :: _) W := h.tail.tail
 have hg : Tryz.prog.globalNamed "internal/strconv.uint64pow10" = some 6 := by kernel_rfl
 have ht : Lib.TabIs Tryz.prog W "internal/strconv.uint64pow10" .u64 Lib.pow10Tab := Lib.tabIs_of_head hg (t := 341) (by kernel_rfl) Tryz.underlying341 Tryz.underlying220 (by kernel_rfl) (by kernel_rfl) h3
 exact⟨LN hg ht,ht⟩
theorem LO : "*" ++ "errors.errorString" = "*errors.errorString" := by decide
theorem AV (u : TypeId) (h : Tryz.prog.typeName? 3 u = some "*errors.errorString") : u = 344 :=
 typeName_ptr_named (nm := "errors.errorString") (by rw [LO]; kernel_rfl) (by kernel_rfl) (by decide) u (by rw [LO]; exact h)
theorem AW{W:Wo}(h:laidMet prog Xw W):q8 W.heap.size W:=by
 have h4:=h.tail.tail.tail.tail
 have hg : Tryz.prog.globalNamed "strconv.ErrRange" = some 5 := by kernel_rfl
 obtain⟨a,s,hv,_,_,_⟩:=laid_sentinel h4 hg (ti:=71) (by kernel_rfl) underlying71 AV underlying344 underlying346 rfl rfl underlying9 (by kernel_rfl) (by kernel_rfl);refine⟨LN hg hv,_,_,World.var?_cell hg hv 0⟩
end Go.Proofs.YtpaecnbdoljafaaGreatDoor
