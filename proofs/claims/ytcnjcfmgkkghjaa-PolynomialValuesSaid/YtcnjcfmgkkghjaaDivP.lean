import Derived.Test.YtcnjcfmgkkghjaaLawA
namespace Go.Proofs.Ytcnjcfmgkkghjaa
open Go.RowKit
theorem many2_any (w : World) (a0 a1 : Option Addr) (l0 c0 l1 c1 : Nat) (t : TypeId) (v : Bool) (hv : decide (30 < l0 ∨ 30 < l1) = v) :
    Calls Try.prog 25 #[.slice (some ⟨w.heap.size, 0, none⟩) 2 2] (w.alloc (.cells #[.slice a0 l0 c0, .slice a1 l1 c1] t)) fun e w' => e = .returned (.bool v) ∧ Below w.heap.size w w' := by
  refine (many_any w.heap.size 2 2 (fun j => if j = 0 then a0 else a1) (fun j => if j = 0 then l0 else l1) (fun j => if j = 0 then c0 else c1) v ?_ ?_ (by decide) _ ?_).mono fun _ _ ⟨h, k⟩ => ⟨h, k ▸ (Below.refl _ w).alloc (Nat.le_refl _) _⟩
  · intro h
    rw [h] at hv
    rcases of_decide_eq_true hv with h1 | h1
    · exact ⟨0, by decide, h1⟩
    · exact ⟨1, by decide, h1⟩
  · intro h j hj
    rw [h] at hv
    have h1 := of_decide_eq_false hv
    show (if j = 0 then l0 else l1) ≤ 30
    split <;> omega
  · intro j hj
    rw [(Blk.new w t _).cell]
    match j, hj with
    | 0, _ => rfl
    | 1, _ => rfl
theorem row_lt {w : World} {a : Option Addr} {len cap : Nat} {bs : List Nat} (h : RowB w a len cap bs) : ∀ i, bs.getD i 0 < 256 := lt_all h.lt
theorem divides_eq {ps qs D R : List Nat} (hq : ∀ i, qs.getD i 0 < 256) (h : DivOk ps qs D R) : Pl.trim (plus (timesT D qs) R) = Pl.trim ps := by
  obtain ⟨h1, h2, h3, h4, h5, h6, h7⟩ := h
  refine Pl.trim_congr (fun j => ?_)
  rw [plus_co, timesT_co, h7 j, Pl.cv_comm h1 hq D.length qs.length (fun i hi => Pl.co_out hi) (fun i hi => Pl.co_out hi), Nat.xor_comm]
end Go.Proofs.Ytcnjcfmgkkghjaa
