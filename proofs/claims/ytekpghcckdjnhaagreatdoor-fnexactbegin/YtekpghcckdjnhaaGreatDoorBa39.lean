import Derived.Test.YtekpghcckdjnhaaGreatDoorBa37
import Derived.Test.YtekpghcckdjnhaaGreatDoorBa9
namespace Go.Proofs.YtekpghcckdjnhaaGreatDoor
open Go.RowKit Go.Sort Go.Proofs.Tryz
end Go.Proofs.YtekpghcckdjnhaaGreatDoor
namespace Go.Proofs.YtekpghcckdjnhaaGreatDoor
open Go.RowKit Go.Proofs.Tryz
theorem zs4 {w:World} {S:Nat->Prop} {a:JV} {v:Value} (h:Rep w S a v) (hn:kd a≠5) : ∀ X:World,(Instr.typeAssert v 66 195 true).run prog X = .ok (.tuple #[.pointer none,.bool false]) X:=by
 intro X
 cases a with
 | nul=>rw[Rep] at h; subst h; kernel_rfl
 | tt=>rw[Rep] at h; subst h; kernel_rfl
 | ff=>rw[Rep] at h; subst h; kernel_rfl
 | num l=>rw[Rep] at h; obtain⟨z,h,_⟩:=h; subst h; kernel_rfl
 | str l=>rw[Rep] at h; subst h; kernel_rfl
 | arr l=>exact absurd rfl hn
 | obj m=>rw[Rep] at h; obtain⟨ob,b,nn,xs,h,_⟩:=h; subst h; kernel_rfl
theorem zws (g:Addr) (X:World) : (Instr.typeAssert (.iface 195 (.pointer (some g))) 66 195 true).run prog X = .ok (.tuple #[.pointer (some g),.bool true]) X:=by kernel_rfl
end Go.Proofs.YtekpghcckdjnhaaGreatDoor
namespace Go.Proofs.YtekpghcckdjnhaaGreatDoor
open Go.RowKit Go.Sort Go.Proofs.Tryz
end Go.Proofs.YtekpghcckdjnhaaGreatDoor
namespace Go.Proofs.YtekpghcckdjnhaaGreatDoor
open Go.RowKit Go.Proofs.Tryz
end Go.Proofs.YtekpghcckdjnhaaGreatDoor
