import Derived.Test.YtfdbdhknamkipaaGf
namespace Go.Proofs.Ytfdbdhknamkipaa
open Go.RowKit
set_option maxHeartbeats 1000000 in
set_option maxRecDepth 100000 in
theorem get_o (kind : Int) (hk : ¬ kind = 0 ∧ ¬ kind = 1 ∧ ¬ kind = 2 ∧ ¬ kind = 3 ∧ ¬ kind = 4 ∧ ¬ kind = 5 ∧ ¬ kind = 6 ∧ ¬ kind = 7) (R : Nat) (a : Option Addr) (cap : Nat) (bs : List Nat) (pos last err : Nat) (most : Int) (w : World) (h : RD w R a cap bs pos last err) :
    Calls Try.prog 16 #[.pointer (some ⟨R, 0, none⟩), .int .i64 kind, .int .i64 most] w fun e w' => e = .returned (RV.val ⟨kind, 0, 0, false, ByteArray.empty, most⟩) ∧ RD w' R a cap bs pos last err ∧ w.grownBy w' (some R) := by
  obtain ⟨k0, k1, k2, k3, k4, k5, k6, k7⟩ := hk
  go_enter Try.func16, Try.ntmps16
  go_wp2_with (fail)
  refine ⟨rfl, _, results_cell_row rfl _ _ w.heap.size _ _ _ _ rfl ((Below.heap_alloc (w.alloc _) _ w.heap.size (by simp)).trans (heap_alloc_new _ _)) Try.underlying37 rfl (by kernel_rfl), ?_⟩
  exact ⟨rfl, (h.alloc _).alloc _, g_alloc (g_alloc (g_refl _ _) _) _⟩
end Go.Proofs.Ytfdbdhknamkipaa
