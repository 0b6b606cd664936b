import Derived.Test.YtbcfkkicmmhhcaaDoorHeldWat
namespace Go.Proofs.YtbcfkkicmmhhcaaDoor
open Go.RowKit

theorem sum_le_sum {α : Type} (f g : α → Nat) (l : List α) (h : ∀ x ∈ l, f x ≤ g x) : (l.map f).sum ≤ (l.map g).sum := by
  induction l with
  | nil => simp
  | cons a r ih =>
    have h1 := h a List.mem_cons_self
    have h2 := ih fun x hx => h x (List.mem_cons_of_mem _ hx)
    simp only [List.map_cons, List.sum_cons]; omega
theorem cntMsgs_le (ms : List Msg) : cntR cntMsg ms ≤ 2 * szMsgs ms := by
  unfold cntR szMsgs
  induction ms with
  | nil => simp
  | cons a r ih =>
    have : cntMsg a ≤ 2 + szMsg a := by unfold cntMsg szMsg szStr; omega
    simp only [List.map_cons, List.sum_cons, List.length_cons]; omega
theorem cntWats_le (ms : List Wat) : cntR cntWat ms ≤ 5 * szWats ms := by
  unfold cntR szWats
  induction ms with
  | nil => simp
  | cons a r ih =>
    have h1 := cntMsgs_le a.queue
    have : cntWat a ≤ 5 + 2 * szWat a := by unfold cntWat szWat; omega
    simp only [List.map_cons, List.sum_cons, List.length_cons]; omega
theorem cntNwss_le (ms : List Nws) : cntR cntNws ms ≤ szNwss ms := by
  unfold cntR szNwss
  induction ms with
  | nil => simp
  | cons a r ih =>
    have : cntNws a ≤ 1 + szNws a := by unfold cntNws szNws szStr; omega
    simp only [List.map_cons, List.sum_cons, List.length_cons]; omega
theorem cntHb_le (h : Hb) : cntR cntWat h.watches + cntR cntNws h.waiting ≤ 6 * szHb h := by
  have h1 := cntWats_le h.watches
  have h2 := cntNwss_le h.waiting
  unfold szHb; omega
theorem OHub.fr {w w' : World} {v : Value} {h : Hb} {bl bx : List Nat} (ho : OHub w v h bl) (hf : Fr bx w w') (hd : ∀ b ∈ bl, b ∉ bx) : OHub w' v h bl := ho.keep (hf.kp ho.lt hd)

end Go.Proofs.YtbcfkkicmmhhcaaDoor
