import Derived.Test.YtfdbdhknamkipaaGk
namespace Go.Proofs.Ytfdbdhknamkipaa
open Go.RowKit
set_option maxHeartbeats 1000000 in
set_option maxRecDepth 100000 in
theorem get_f (R : Nat) (a : Option Addr) (cap : Nat) (bs : List Nat) (pos last err p1 l1 e1 : Nat) (most : Int) (call : Hid (∀ W, RD W R a cap bs pos last err → Calls Try.prog 24 #[.pointer (some ⟨R, 0, none⟩)] W fun e w' => e = .returned (.tuple #[]) ∧ RD w' R a cap bs p1 l1 e1 ∧ W.grownBy w' (some R))) (w : World) (h : RD w R a cap bs pos last err) :
    Calls Try.prog 16 #[.pointer (some ⟨R, 0, none⟩), .int .i64 0, .int .i64 most] w fun e w' => e = .returned (RV.val ⟨0, 0, 0, false, ByteArray.empty, most⟩) ∧ RD w' R a cap bs p1 l1 e1 ∧ w.grownBy w' (some R) := by
  have hR := h.lt
  have hA : RD ((w.alloc (.cells #[.int .i64 0, .int .u64 0, .int .i64 0, .bool false, .string ByteArray.empty, .int .i64 0] 37)).alloc (.cells #[.int .i64 0, .int .u64 0, .int .i64 0, .bool false, .string ByteArray.empty, .int .i64 most] 37)) R a cap bs pos last err := (h.alloc _).alloc _
  have hG : w.grownBy ((w.alloc (.cells #[.int .i64 0, .int .u64 0, .int .i64 0, .bool false, .string ByteArray.empty, .int .i64 0] 37)).alloc (.cells #[.int .i64 0, .int .u64 0, .int .i64 0, .bool false, .string ByteArray.empty, .int .i64 most] 37)) (some R) := g_alloc (g_alloc (g_refl _ _) _) _
  have r0 : ((w.alloc (.cells #[.int .i64 0, .int .u64 0, .int .i64 0, .bool false, .string ByteArray.empty, .int .i64 0] 37)).alloc (.cells #[.int .i64 0, .int .u64 0, .int .i64 0, .bool false, .string ByteArray.empty, .int .i64 most] 37)).heap[w.heap.size]? = some (.cells #[.int .i64 0, .int .u64 0, .int .i64 0, .bool false, .string ByteArray.empty, .int .i64 0] 37 (0, 0)) := (Below.heap_alloc (w.alloc (.cells #[.int .i64 0, .int .u64 0, .int .i64 0, .bool false, .string ByteArray.empty, .int .i64 0] 37)) (.cells #[.int .i64 0, .int .u64 0, .int .i64 0, .bool false, .string ByteArray.empty, .int .i64 most] 37) w.heap.size (by simp)).trans (heap_alloc_new _ _)
  have r1 : ((w.alloc (.cells #[.int .i64 0, .int .u64 0, .int .i64 0, .bool false, .string ByteArray.empty, .int .i64 0] 37)).alloc (.cells #[.int .i64 0, .int .u64 0, .int .i64 0, .bool false, .string ByteArray.empty, .int .i64 most] 37)).heap[w.heap.size + 1]? = some (.cells #[.int .i64 0, .int .u64 0, .int .i64 0, .bool false, .string ByteArray.empty, .int .i64 most] 37 (0, 0)) := by rw [← World.size_alloc w (.cells #[.int .i64 0, .int .u64 0, .int .i64 0, .bool false, .string ByteArray.empty, .int .i64 0] 37)]; exact heap_alloc_new _ _
  have hsz : ((w.alloc (.cells #[.int .i64 0, .int .u64 0, .int .i64 0, .bool false, .string ByteArray.empty, .int .i64 0] 37)).alloc (.cells #[.int .i64 0, .int .u64 0, .int .i64 0, .bool false, .string ByteArray.empty, .int .i64 most] 37)).heap.size = w.heap.size + 2 := by simp
  have hr := call.out _ hA
  have hr2 := hidIt hr
  have hG2 := hidIt hG
  have r02 := hidIt r0
  have r12 := hidIt r1
  have hs2 := hidIt hsz
  clear hr hG r0 r1 hA hsz
  go_enter Try.func16, Try.ntmps16
  go_wp2_with (fail)
  refine hr2.out.mono ?_
  rintro e w1 ⟨rfl, hrd, hg⟩
  have t0 := (hg.block w.heap.size (by rw [hs2.out]; omega) (by simp; omega)).trans r02.out
  have t1 := (hg.block (w.heap.size + 1) (by rw [hs2.out]; omega) (by simp; omega)).trans r12.out
  have hG3 := hidIt (g_trans hG2.out hg)
  clear hr2 hg r02 r12 hs2 hG2
  generalize hS : w.heap.size = S at *
  have c10 : w1.cell? ⟨S + 1, 0, none⟩ = some (.int .i64 0) := by rw [cell_of_row w1 (S + 1) 0 _ _ _ t1]; rfl
  have c11 : w1.cell? ⟨S + 1, 1, none⟩ = some (.int .u64 0) := by rw [cell_of_row w1 (S + 1) 1 _ _ _ t1]; rfl
  have c12 : w1.cell? ⟨S + 1, 2, none⟩ = some (.int .i64 0) := by rw [cell_of_row w1 (S + 1) 2 _ _ _ t1]; rfl
  have c13 : w1.cell? ⟨S + 1, 3, none⟩ = some (.bool false) := by rw [cell_of_row w1 (S + 1) 3 _ _ _ t1]; rfl
  have c14 : w1.cell? ⟨S + 1, 4, none⟩ = some (.string ByteArray.empty) := by rw [cell_of_row w1 (S + 1) 4 _ _ _ t1]; rfl
  have c15 : w1.cell? ⟨S + 1, 5, none⟩ = some (.int .i64 most) := by rw [cell_of_row w1 (S + 1) 5 _ _ _ t1]; rfl
  have c00 : w1.cell? ⟨S, 0, none⟩ = some (.int .i64 0) := by rw [cell_of_row w1 S 0 _ _ _ t0]; rfl
  have f00 := frozen_of_row w1 S 0 _ _ t0
  have c01 : w1.cell? ⟨S, 1, none⟩ = some (.int .u64 0) := by rw [cell_of_row w1 S 1 _ _ _ t0]; rfl
  have f01 := frozen_of_row w1 S 1 _ _ t0
  have c02 : w1.cell? ⟨S, 2, none⟩ = some (.int .i64 0) := by rw [cell_of_row w1 S 2 _ _ _ t0]; rfl
  have f02 := frozen_of_row w1 S 2 _ _ t0
  have c03 : w1.cell? ⟨S, 3, none⟩ = some (.bool false) := by rw [cell_of_row w1 S 3 _ _ _ t0]; rfl
  have f03 := frozen_of_row w1 S 3 _ _ t0
  have c04 : w1.cell? ⟨S, 4, none⟩ = some (.string ByteArray.empty) := by rw [cell_of_row w1 S 4 _ _ _ t0]; rfl
  have f04 := frozen_of_row w1 S 4 _ _ t0
  have c05 : w1.cell? ⟨S, 5, none⟩ = some (.int .i64 0) := by rw [cell_of_row w1 S 5 _ _ _ t0]; rfl
  have f05 := frozen_of_row w1 S 5 _ _ t0
  go_wp2_with (fail)
  have hSS : w.heap.size ≤ S := by omega
  have e0 := t0
  have e1 := heap_setCell_same _ S 0 _ _ (.int .i64 0) e0
  have e2 := heap_setCell_same _ S 1 _ _ (.int .u64 0) e1
  have e3 := heap_setCell_same _ S 2 _ _ (.int .i64 0) e2
  have e4 := heap_setCell_same _ S 3 _ _ (.bool false) e3
  have e5 := heap_setCell_same _ S 4 _ _ (.string ByteArray.empty) e4
  have e6 := heap_setCell_same _ S 5 _ _ (.int .i64 most) e5
  refine ⟨rfl, _, results_cell_row rfl _ _ S _ _ _ _ rfl e6 Try.underlying37 rfl (by kernel_rfl), ?_⟩
  refine ⟨rfl, ?_, ?_⟩
  · exact h.setNew (h.setNew (h.setNew (h.setNew (h.setNew (h.setNew hrd hSS) hSS) hSS) hSS) hSS) hSS
  · exact g_set_new (g_set_new (g_set_new (g_set_new (g_set_new (g_set_new hG3.out hSS) hSS) hSS) hSS) hSS) hSS
end Go.Proofs.Ytfdbdhknamkipaa
