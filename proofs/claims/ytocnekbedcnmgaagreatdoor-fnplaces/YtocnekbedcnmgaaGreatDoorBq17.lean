import Derived.Test.YtocnekbedcnmgaaGreatDoorBq16
import Derived.Test.YtocnekbedcnmgaaGreatDoorBq9
import Derived.Test.YtocnekbedcnmgaaGreatDoorBq2
import Derived.Test.YtocnekbedcnmgaaGreatDoorBq6
import Derived.Test.YtocnekbedcnmgaaGreatDoorBq8
import Derived.Test.YtocnekbedcnmgaaGreatDoorBq5
namespace Go.Proofs.YtocnekbedcnmgaaGreatDoor
open Go.RowKit

/-- Whether a text is good and canonical. -/
def goodT (s : ByteArray) : Bool := match readR s with
  | .inl _ => false
  | .inr v => (strOf (ct v)).toList == s.toList
end Go.Proofs.YtocnekbedcnmgaaGreatDoor


namespace Go.Proofs.YtocnekbedcnmgaaGreatDoor
open Go.RowKit

end Go.Proofs.YtocnekbedcnmgaaGreatDoor


namespace Go.Proofs.YtocnekbedcnmgaaGreatDoor
open Go.RowKit

end Go.Proofs.YtocnekbedcnmgaaGreatDoor


namespace Go.Proofs.YtocnekbedcnmgaaGreatDoor
open Go.RowKit

end Go.Proofs.YtocnekbedcnmgaaGreatDoor


namespace Go.Proofs.YtocnekbedcnmgaaGreatDoor
open Go.RowKit

def JL.ofL : List JV → JL
  | [] => .nil
  | v :: r => .cons v (JL.ofL r)
theorem JL.toL_ofL : ∀ l : List JV, (JL.ofL l).toL = l
  | [] => rfl
  | v :: r => by rw [JL.ofL, JL.toL, JL.toL_ofL r]
theorem goodT_ct {v : JV} (h : rdV v) (hb : bigV v = false) (ht : twV v = false) : goodT (strOf (ct v)) = decide (depV v ≤ 100 ∧ cntV v ≤ 3000 ∧ (ct v).length ≤ 20000) := by
  unfold goodT
  rw [readR_ct h hb ht]
  by_cases h1 : 20000 < (ct v).length
  · rw [if_pos h1]; simp; omega
  · rw [if_neg h1]
    by_cases h2 : 100 < depV v ∨ 3000 < cntV v
    · rw [if_pos h2]; simp; omega
    · rw [if_neg h2]
      simp only [(nv_nf v).ct, beq_self_eq_true]
      symm
      rw [decide_eq_true_eq]; omega
end Go.Proofs.YtocnekbedcnmgaaGreatDoor

