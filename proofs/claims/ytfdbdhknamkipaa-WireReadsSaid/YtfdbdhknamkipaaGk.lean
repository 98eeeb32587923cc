import Derived.Test.YtfdbdhknamkipaaPutAny
namespace Go.Proofs.Ytfdbdhknamkipaa
open Go.RowKit
theorem g_set_new {a b : World} {r : Option Nat} {S i : Nat} {v : Value} (h : a.grownBy b r) (hS : a.heap.size ≤ S) : a.grownBy (b.setCell ⟨S, i, none⟩ v) r :=
  ⟨h.os, h.tape, h.output, by simpa using h.size, fun k hk hr => (heap_setCell_other b ⟨S, i, none⟩ k v (fun e => by have : k = S := e; omega)).trans (h.block k hk hr)⟩
theorem RD.setNew {w0 w : World} {R S i : Nat} {v : Value} {a : Option Addr} {cap : Nat} {bs : List Nat} {p0 l0 e0 pos last err : Nat} (h0 : RD w0 R a cap bs p0 l0 e0) (h : RD w R a cap bs pos last err) (hS : w0.heap.size ≤ S) : RD (w.setCell ⟨S, i, none⟩ v) R a cap bs pos last err := by
  have hR := h0.lt
  refine ⟨(heap_setCell_other w ⟨S, i, none⟩ R v (fun e => by have : R = S := e; omega)).trans h.row, ?_, h.ne, h.le, h.lastle, h.capge, h.capm⟩
  intro j hj
  obtain ⟨b, off, h2, h3⟩ := h.bytes j hj
  obtain ⟨b', off', h2', h3'⟩ := h0.bytes j hj
  have hb := bytes_lt h3'
  rw [h2] at h2'
  simp only [Option.some.injEq, Addr.mk.injEq] at h2'
  refine ⟨b, off, h2, (World.cell?_of_block (a := ⟨b, off + j, none⟩) (heap_setCell_other w ⟨S, i, none⟩ b v (fun e => by have : b = S := e; omega))).trans h3⟩
set_option maxHeartbeats 1000000 in
set_option maxRecDepth 100000 in
theorem get_u (R : Nat) (a : Option Addr) (cap : Nat) (bs : List Nat) (pos last err p1 l1 e1 : Nat) (most : Int) (y : Nat) (call : Hid (∀ W, RD W R a cap bs pos last err → Calls Try.prog 27 #[.pointer (some ⟨R, 0, none⟩)] W fun e w' => e = .returned (.int .u64 y) ∧ RD w' R a cap bs p1 l1 e1 ∧ W.grownBy w' (some R))) (w : World) (h : RD w R a cap bs pos last err) :
    Calls Try.prog 16 #[.pointer (some ⟨R, 0, none⟩), .int .i64 1, .int .i64 most] w fun e w' => e = .returned (RV.val ⟨1, y, 0, false, ByteArray.empty, most⟩) ∧ RD w' R a cap bs p1 l1 e1 ∧ w.grownBy w' (some R) := by
  have hR := h.lt
  have hA : RD ((w.alloc (.cells #[.int .i64 0, .int .u64 0, .int .i64 0, .bool false, .string ByteArray.empty, .int .i64 0] 37)).alloc (.cells #[.int .i64 1, .int .u64 0, .int .i64 0, .bool false, .string ByteArray.empty, .int .i64 most] 37)) R a cap bs pos last err := (h.alloc _).alloc _
  have hG : w.grownBy ((w.alloc (.cells #[.int .i64 0, .int .u64 0, .int .i64 0, .bool false, .string ByteArray.empty, .int .i64 0] 37)).alloc (.cells #[.int .i64 1, .int .u64 0, .int .i64 0, .bool false, .string ByteArray.empty, .int .i64 most] 37)) (some R) := g_alloc (g_alloc (g_refl _ _) _) _
  have r0 : ((w.alloc (.cells #[.int .i64 0, .int .u64 0, .int .i64 0, .bool false, .string ByteArray.empty, .int .i64 0] 37)).alloc (.cells #[.int .i64 1, .int .u64 0, .int .i64 0, .bool false, .string ByteArray.empty, .int .i64 most] 37)).heap[w.heap.size]? = some (.cells #[.int .i64 0, .int .u64 0, .int .i64 0, .bool false, .string ByteArray.empty, .int .i64 0] 37 (0, 0)) := (Below.heap_alloc (w.alloc (.cells #[.int .i64 0, .int .u64 0, .int .i64 0, .bool false, .string ByteArray.empty, .int .i64 0] 37)) (.cells #[.int .i64 1, .int .u64 0, .int .i64 0, .bool false, .string ByteArray.empty, .int .i64 most] 37) w.heap.size (by simp)).trans (heap_alloc_new _ _)
  have r1 : ((w.alloc (.cells #[.int .i64 0, .int .u64 0, .int .i64 0, .bool false, .string ByteArray.empty, .int .i64 0] 37)).alloc (.cells #[.int .i64 1, .int .u64 0, .int .i64 0, .bool false, .string ByteArray.empty, .int .i64 most] 37)).heap[w.heap.size + 1]? = some (.cells #[.int .i64 1, .int .u64 0, .int .i64 0, .bool false, .string ByteArray.empty, .int .i64 most] 37 (0, 0)) := by rw [← World.size_alloc w (.cells #[.int .i64 0, .int .u64 0, .int .i64 0, .bool false, .string ByteArray.empty, .int .i64 0] 37)]; exact heap_alloc_new _ _
  have hsz : ((w.alloc (.cells #[.int .i64 0, .int .u64 0, .int .i64 0, .bool false, .string ByteArray.empty, .int .i64 0] 37)).alloc (.cells #[.int .i64 1, .int .u64 0, .int .i64 0, .bool false, .string ByteArray.empty, .int .i64 most] 37)).heap.size = w.heap.size + 2 := by simp
  have hr := call.out _ hA
  have hr2 := hidIt hr
  have hG2 := hidIt hG
  have r02 := hidIt r0
  have r12 := hidIt r1
  have hs2 := hidIt hsz
  clear hr hG r0 r1 hA hsz
  go_enter Try.func16, Try.ntmps16
  go_wp2_with (fail)
  refine hr2.out.mono ?_
  rintro e w1 ⟨rfl, hrd, hg⟩
  have t0 := (hg.block w.heap.size (by rw [hs2.out]; omega) (by simp; omega)).trans r02.out
  have t1 := (hg.block (w.heap.size + 1) (by rw [hs2.out]; omega) (by simp; omega)).trans r12.out
  have hG3 := hidIt (g_trans hG2.out hg)
  clear hr2 hg r02 r12 hs2 hG2
  generalize hS : w.heap.size = S at *
  have c10 : w1.cell? ⟨S + 1, 0, none⟩ = some (.int .i64 1) := by rw [cell_of_row w1 (S + 1) 0 _ _ _ t1]; rfl
  have c11 : w1.cell? ⟨S + 1, 1, none⟩ = some (.int .u64 0) := by rw [cell_of_row w1 (S + 1) 1 _ _ _ t1]; rfl
  have c12 : w1.cell? ⟨S + 1, 2, none⟩ = some (.int .i64 0) := by rw [cell_of_row w1 (S + 1) 2 _ _ _ t1]; rfl
  have c13 : w1.cell? ⟨S + 1, 3, none⟩ = some (.bool false) := by rw [cell_of_row w1 (S + 1) 3 _ _ _ t1]; rfl
  have c14 : w1.cell? ⟨S + 1, 4, none⟩ = some (.string ByteArray.empty) := by rw [cell_of_row w1 (S + 1) 4 _ _ _ t1]; rfl
  have c15 : w1.cell? ⟨S + 1, 5, none⟩ = some (.int .i64 most) := by rw [cell_of_row w1 (S + 1) 5 _ _ _ t1]; rfl
  have c00 : w1.cell? ⟨S, 0, none⟩ = some (.int .i64 0) := by rw [cell_of_row w1 S 0 _ _ _ t0]; rfl
  have f00 := frozen_of_row w1 S 0 _ _ t0
  have c01 : w1.cell? ⟨S, 1, none⟩ = some (.int .u64 0) := by rw [cell_of_row w1 S 1 _ _ _ t0]; rfl
  have f01 := frozen_of_row w1 S 1 _ _ t0
  have c02 : w1.cell? ⟨S, 2, none⟩ = some (.int .i64 0) := by rw [cell_of_row w1 S 2 _ _ _ t0]; rfl
  have f02 := frozen_of_row w1 S 2 _ _ t0
  have c03 : w1.cell? ⟨S, 3, none⟩ = some (.bool false) := by rw [cell_of_row w1 S 3 _ _ _ t0]; rfl
  have f03 := frozen_of_row w1 S 3 _ _ t0
  have c04 : w1.cell? ⟨S, 4, none⟩ = some (.string ByteArray.empty) := by rw [cell_of_row w1 S 4 _ _ _ t0]; rfl
  have f04 := frozen_of_row w1 S 4 _ _ t0
  have c05 : w1.cell? ⟨S, 5, none⟩ = some (.int .i64 0) := by rw [cell_of_row w1 S 5 _ _ _ t0]; rfl
  have f05 := frozen_of_row w1 S 5 _ _ t0
  have f11 := frozen_of_row w1 (S + 1) 1 _ _ t1
  go_wp2_with (fail)
  have hSS : w.heap.size ≤ S := by omega
  have hSS1 : w.heap.size ≤ S + 1 := by omega
  have e0 := (heap_setCell_other w1 ⟨S + 1, 1, none⟩ S (.int .u64 y) (fun e => by have : S = S + 1 := e; omega)).trans t0
  have e1 := heap_setCell_same _ S 0 _ _ (.int .i64 1) e0
  have e2 := heap_setCell_same _ S 1 _ _ (.int .u64 y) e1
  have e3 := heap_setCell_same _ S 2 _ _ (.int .i64 0) e2
  have e4 := heap_setCell_same _ S 3 _ _ (.bool false) e3
  have e5 := heap_setCell_same _ S 4 _ _ (.string ByteArray.empty) e4
  have e6 := heap_setCell_same _ S 5 _ _ (.int .i64 most) e5
  refine ⟨rfl, _, results_cell_row rfl _ _ S _ _ _ _ rfl e6 Try.underlying37 rfl (by kernel_rfl), ?_⟩
  refine ⟨rfl, ?_, ?_⟩
  · exact h.setNew (h.setNew (h.setNew (h.setNew (h.setNew (h.setNew (h.setNew hrd hSS1) hSS) hSS) hSS) hSS) hSS) hSS
  · exact g_set_new (g_set_new (g_set_new (g_set_new (g_set_new (g_set_new (g_set_new hG3.out hSS1) hSS) hSS) hSS) hSS) hSS) hSS
set_option maxHeartbeats 1000000 in
set_option maxRecDepth 100000 in
theorem get_i (R : Nat) (a : Option Addr) (cap : Nat) (bs : List Nat) (pos last err p1 l1 e1 : Nat) (most : Int) (y : Int) (call : Hid (∀ W, RD W R a cap bs pos last err → Calls Try.prog 34 #[.pointer (some ⟨R, 0, none⟩)] W fun e w' => e = .returned (.int .i64 y) ∧ RD w' R a cap bs p1 l1 e1 ∧ W.grownBy w' (some R))) (w : World) (h : RD w R a cap bs pos last err) :
    Calls Try.prog 16 #[.pointer (some ⟨R, 0, none⟩), .int .i64 2, .int .i64 most] w fun e w' => e = .returned (RV.val ⟨2, 0, y, false, ByteArray.empty, most⟩) ∧ RD w' R a cap bs p1 l1 e1 ∧ w.grownBy w' (some R) := by
  have hR := h.lt
  have hA : RD ((w.alloc (.cells #[.int .i64 0, .int .u64 0, .int .i64 0, .bool false, .string ByteArray.empty, .int .i64 0] 37)).alloc (.cells #[.int .i64 2, .int .u64 0, .int .i64 0, .bool false, .string ByteArray.empty, .int .i64 most] 37)) R a cap bs pos last err := (h.alloc _).alloc _
  have hG : w.grownBy ((w.alloc (.cells #[.int .i64 0, .int .u64 0, .int .i64 0, .bool false, .string ByteArray.empty, .int .i64 0] 37)).alloc (.cells #[.int .i64 2, .int .u64 0, .int .i64 0, .bool false, .string ByteArray.empty, .int .i64 most] 37)) (some R) := g_alloc (g_alloc (g_refl _ _) _) _
  have r0 : ((w.alloc (.cells #[.int .i64 0, .int .u64 0, .int .i64 0, .bool false, .string ByteArray.empty, .int .i64 0] 37)).alloc (.cells #[.int .i64 2, .int .u64 0, .int .i64 0, .bool false, .string ByteArray.empty, .int .i64 most] 37)).heap[w.heap.size]? = some (.cells #[.int .i64 0, .int .u64 0, .int .i64 0, .bool false, .string ByteArray.empty, .int .i64 0] 37 (0, 0)) := (Below.heap_alloc (w.alloc (.cells #[.int .i64 0, .int .u64 0, .int .i64 0, .bool false, .string ByteArray.empty, .int .i64 0] 37)) (.cells #[.int .i64 2, .int .u64 0, .int .i64 0, .bool false, .string ByteArray.empty, .int .i64 most] 37) w.heap.size (by simp)).trans (heap_alloc_new _ _)
  have r1 : ((w.alloc (.cells #[.int .i64 0, .int .u64 0, .int .i64 0, .bool false, .string ByteArray.empty, .int .i64 0] 37)).alloc (.cells #[.int .i64 2, .int .u64 0, .int .i64 0, .bool false, .string ByteArray.empty, .int .i64 most] 37)).heap[w.heap.size + 1]? = some (.cells #[.int .i64 2, .int .u64 0, .int .i64 0, .bool false, .string ByteArray.empty, .int .i64 most] 37 (0, 0)) := by rw [← World.size_alloc w (.cells #[.int .i64 0, .int .u64 0, .int .i64 0, .bool false, .string ByteArray.empty, .int .i64 0] 37)]; exact heap_alloc_new _ _
  have hsz : ((w.alloc (.cells #[.int .i64 0, .int .u64 0, .int .i64 0, .bool false, .string ByteArray.empty, .int .i64 0] 37)).alloc (.cells #[.int .i64 2, .int .u64 0, .int .i64 0, .bool false, .string ByteArray.empty, .int .i64 most] 37)).heap.size = w.heap.size + 2 := by simp
  have hr := call.out _ hA
  have hr2 := hidIt hr
  have hG2 := hidIt hG
  have r02 := hidIt r0
  have r12 := hidIt r1
  have hs2 := hidIt hsz
  clear hr hG r0 r1 hA hsz
  go_enter Try.func16, Try.ntmps16
  go_wp2_with (fail)
  refine hr2.out.mono ?_
  rintro e w1 ⟨rfl, hrd, hg⟩
  have t0 := (hg.block w.heap.size (by rw [hs2.out]; omega) (by simp; omega)).trans r02.out
  have t1 := (hg.block (w.heap.size + 1) (by rw [hs2.out]; omega) (by simp; omega)).trans r12.out
  have hG3 := hidIt (g_trans hG2.out hg)
  clear hr2 hg r02 r12 hs2 hG2
  generalize hS : w.heap.size = S at *
  have c10 : w1.cell? ⟨S + 1, 0, none⟩ = some (.int .i64 2) := by rw [cell_of_row w1 (S + 1) 0 _ _ _ t1]; rfl
  have c11 : w1.cell? ⟨S + 1, 1, none⟩ = some (.int .u64 0) := by rw [cell_of_row w1 (S + 1) 1 _ _ _ t1]; rfl
  have c12 : w1.cell? ⟨S + 1, 2, none⟩ = some (.int .i64 0) := by rw [cell_of_row w1 (S + 1) 2 _ _ _ t1]; rfl
  have c13 : w1.cell? ⟨S + 1, 3, none⟩ = some (.bool false) := by rw [cell_of_row w1 (S + 1) 3 _ _ _ t1]; rfl
  have c14 : w1.cell? ⟨S + 1, 4, none⟩ = some (.string ByteArray.empty) := by rw [cell_of_row w1 (S + 1) 4 _ _ _ t1]; rfl
  have c15 : w1.cell? ⟨S + 1, 5, none⟩ = some (.int .i64 most) := by rw [cell_of_row w1 (S + 1) 5 _ _ _ t1]; rfl
  have c00 : w1.cell? ⟨S, 0, none⟩ = some (.int .i64 0) := by rw [cell_of_row w1 S 0 _ _ _ t0]; rfl
  have f00 := frozen_of_row w1 S 0 _ _ t0
  have c01 : w1.cell? ⟨S, 1, none⟩ = some (.int .u64 0) := by rw [cell_of_row w1 S 1 _ _ _ t0]; rfl
  have f01 := frozen_of_row w1 S 1 _ _ t0
  have c02 : w1.cell? ⟨S, 2, none⟩ = some (.int .i64 0) := by rw [cell_of_row w1 S 2 _ _ _ t0]; rfl
  have f02 := frozen_of_row w1 S 2 _ _ t0
  have c03 : w1.cell? ⟨S, 3, none⟩ = some (.bool false) := by rw [cell_of_row w1 S 3 _ _ _ t0]; rfl
  have f03 := frozen_of_row w1 S 3 _ _ t0
  have c04 : w1.cell? ⟨S, 4, none⟩ = some (.string ByteArray.empty) := by rw [cell_of_row w1 S 4 _ _ _ t0]; rfl
  have f04 := frozen_of_row w1 S 4 _ _ t0
  have c05 : w1.cell? ⟨S, 5, none⟩ = some (.int .i64 0) := by rw [cell_of_row w1 S 5 _ _ _ t0]; rfl
  have f05 := frozen_of_row w1 S 5 _ _ t0
  have f11 := frozen_of_row w1 (S + 1) 2 _ _ t1
  go_wp2_with (fail)
  have hSS : w.heap.size ≤ S := by omega
  have hSS1 : w.heap.size ≤ S + 1 := by omega
  have e0 := (heap_setCell_other w1 ⟨S + 1, 2, none⟩ S (.int .i64 y) (fun e => by have : S = S + 1 := e; omega)).trans t0
  have e1 := heap_setCell_same _ S 0 _ _ (.int .i64 2) e0
  have e2 := heap_setCell_same _ S 1 _ _ (.int .u64 0) e1
  have e3 := heap_setCell_same _ S 2 _ _ (.int .i64 y) e2
  have e4 := heap_setCell_same _ S 3 _ _ (.bool false) e3
  have e5 := heap_setCell_same _ S 4 _ _ (.string ByteArray.empty) e4
  have e6 := heap_setCell_same _ S 5 _ _ (.int .i64 most) e5
  refine ⟨rfl, _, results_cell_row rfl _ _ S _ _ _ _ rfl e6 Try.underlying37 rfl (by kernel_rfl), ?_⟩
  refine ⟨rfl, ?_, ?_⟩
  · exact h.setNew (h.setNew (h.setNew (h.setNew (h.setNew (h.setNew (h.setNew hrd hSS1) hSS) hSS) hSS) hSS) hSS) hSS
  · exact g_set_new (g_set_new (g_set_new (g_set_new (g_set_new (g_set_new (g_set_new hG3.out hSS1) hSS) hSS) hSS) hSS) hSS) hSS
set_option maxHeartbeats 1000000 in
set_option maxRecDepth 100000 in
theorem get_b (R : Nat) (a : Option Addr) (cap : Nat) (bs : List Nat) (pos last err p1 l1 e1 : Nat) (most : Int) (y : Bool) (call : Hid (∀ W, RD W R a cap bs pos last err → Calls Try.prog 28 #[.pointer (some ⟨R, 0, none⟩)] W fun e w' => e = .returned (.bool y) ∧ RD w' R a cap bs p1 l1 e1 ∧ W.grownBy w' (some R))) (w : World) (h : RD w R a cap bs pos last err) :
    Calls Try.prog 16 #[.pointer (some ⟨R, 0, none⟩), .int .i64 3, .int .i64 most] w fun e w' => e = .returned (RV.val ⟨3, 0, 0, y, ByteArray.empty, most⟩) ∧ RD w' R a cap bs p1 l1 e1 ∧ w.grownBy w' (some R) := by
  have hR := h.lt
  have hA : RD ((w.alloc (.cells #[.int .i64 0, .int .u64 0, .int .i64 0, .bool false, .string ByteArray.empty, .int .i64 0] 37)).alloc (.cells #[.int .i64 3, .int .u64 0, .int .i64 0, .bool false, .string ByteArray.empty, .int .i64 most] 37)) R a cap bs pos last err := (h.alloc _).alloc _
  have hG : w.grownBy ((w.alloc (.cells #[.int .i64 0, .int .u64 0, .int .i64 0, .bool false, .string ByteArray.empty, .int .i64 0] 37)).alloc (.cells #[.int .i64 3, .int .u64 0, .int .i64 0, .bool false, .string ByteArray.empty, .int .i64 most] 37)) (some R) := g_alloc (g_alloc (g_refl _ _) _) _
  have r0 : ((w.alloc (.cells #[.int .i64 0, .int .u64 0, .int .i64 0, .bool false, .string ByteArray.empty, .int .i64 0] 37)).alloc (.cells #[.int .i64 3, .int .u64 0, .int .i64 0, .bool false, .string ByteArray.empty, .int .i64 most] 37)).heap[w.heap.size]? = some (.cells #[.int .i64 0, .int .u64 0, .int .i64 0, .bool false, .string ByteArray.empty, .int .i64 0] 37 (0, 0)) := (Below.heap_alloc (w.alloc (.cells #[.int .i64 0, .int .u64 0, .int .i64 0, .bool false, .string ByteArray.empty, .int .i64 0] 37)) (.cells #[.int .i64 3, .int .u64 0, .int .i64 0, .bool false, .string ByteArray.empty, .int .i64 most] 37) w.heap.size (by simp)).trans (heap_alloc_new _ _)
  have r1 : ((w.alloc (.cells #[.int .i64 0, .int .u64 0, .int .i64 0, .bool false, .string ByteArray.empty, .int .i64 0] 37)).alloc (.cells #[.int .i64 3, .int .u64 0, .int .i64 0, .bool false, .string ByteArray.empty, .int .i64 most] 37)).heap[w.heap.size + 1]? = some (.cells #[.int .i64 3, .int .u64 0, .int .i64 0, .bool false, .string ByteArray.empty, .int .i64 most] 37 (0, 0)) := by rw [← World.size_alloc w (.cells #[.int .i64 0, .int .u64 0, .int .i64 0, .bool false, .string ByteArray.empty, .int .i64 0] 37)]; exact heap_alloc_new _ _
  have hsz : ((w.alloc (.cells #[.int .i64 0, .int .u64 0, .int .i64 0, .bool false, .string ByteArray.empty, .int .i64 0] 37)).alloc (.cells #[.int .i64 3, .int .u64 0, .int .i64 0, .bool false, .string ByteArray.empty, .int .i64 most] 37)).heap.size = w.heap.size + 2 := by simp
  have hr := call.out _ hA
  have hr2 := hidIt hr
  have hG2 := hidIt hG
  have r02 := hidIt r0
  have r12 := hidIt r1
  have hs2 := hidIt hsz
  clear hr hG r0 r1 hA hsz
  go_enter Try.func16, Try.ntmps16
  go_wp2_with (fail)
  refine hr2.out.mono ?_
  rintro e w1 ⟨rfl, hrd, hg⟩
  have t0 := (hg.block w.heap.size (by rw [hs2.out]; omega) (by simp; omega)).trans r02.out
  have t1 := (hg.block (w.heap.size + 1) (by rw [hs2.out]; omega) (by simp; omega)).trans r12.out
  have hG3 := hidIt (g_trans hG2.out hg)
  clear hr2 hg r02 r12 hs2 hG2
  generalize hS : w.heap.size = S at *
  have c10 : w1.cell? ⟨S + 1, 0, none⟩ = some (.int .i64 3) := by rw [cell_of_row w1 (S + 1) 0 _ _ _ t1]; rfl
  have c11 : w1.cell? ⟨S + 1, 1, none⟩ = some (.int .u64 0) := by rw [cell_of_row w1 (S + 1) 1 _ _ _ t1]; rfl
  have c12 : w1.cell? ⟨S + 1, 2, none⟩ = some (.int .i64 0) := by rw [cell_of_row w1 (S + 1) 2 _ _ _ t1]; rfl
  have c13 : w1.cell? ⟨S + 1, 3, none⟩ = some (.bool false) := by rw [cell_of_row w1 (S + 1) 3 _ _ _ t1]; rfl
  have c14 : w1.cell? ⟨S + 1, 4, none⟩ = some (.string ByteArray.empty) := by rw [cell_of_row w1 (S + 1) 4 _ _ _ t1]; rfl
  have c15 : w1.cell? ⟨S + 1, 5, none⟩ = some (.int .i64 most) := by rw [cell_of_row w1 (S + 1) 5 _ _ _ t1]; rfl
  have c00 : w1.cell? ⟨S, 0, none⟩ = some (.int .i64 0) := by rw [cell_of_row w1 S 0 _ _ _ t0]; rfl
  have f00 := frozen_of_row w1 S 0 _ _ t0
  have c01 : w1.cell? ⟨S, 1, none⟩ = some (.int .u64 0) := by rw [cell_of_row w1 S 1 _ _ _ t0]; rfl
  have f01 := frozen_of_row w1 S 1 _ _ t0
  have c02 : w1.cell? ⟨S, 2, none⟩ = some (.int .i64 0) := by rw [cell_of_row w1 S 2 _ _ _ t0]; rfl
  have f02 := frozen_of_row w1 S 2 _ _ t0
  have c03 : w1.cell? ⟨S, 3, none⟩ = some (.bool false) := by rw [cell_of_row w1 S 3 _ _ _ t0]; rfl
  have f03 := frozen_of_row w1 S 3 _ _ t0
  have c04 : w1.cell? ⟨S, 4, none⟩ = some (.string ByteArray.empty) := by rw [cell_of_row w1 S 4 _ _ _ t0]; rfl
  have f04 := frozen_of_row w1 S 4 _ _ t0
  have c05 : w1.cell? ⟨S, 5, none⟩ = some (.int .i64 0) := by rw [cell_of_row w1 S 5 _ _ _ t0]; rfl
  have f05 := frozen_of_row w1 S 5 _ _ t0
  have f11 := frozen_of_row w1 (S + 1) 3 _ _ t1
  go_wp2_with (fail)
  have hSS : w.heap.size ≤ S := by omega
  have hSS1 : w.heap.size ≤ S + 1 := by omega
  have e0 := (heap_setCell_other w1 ⟨S + 1, 3, none⟩ S (.bool y) (fun e => by have : S = S + 1 := e; omega)).trans t0
  have e1 := heap_setCell_same _ S 0 _ _ (.int .i64 3) e0
  have e2 := heap_setCell_same _ S 1 _ _ (.int .u64 0) e1
  have e3 := heap_setCell_same _ S 2 _ _ (.int .i64 0) e2
  have e4 := heap_setCell_same _ S 3 _ _ (.bool y) e3
  have e5 := heap_setCell_same _ S 4 _ _ (.string ByteArray.empty) e4
  have e6 := heap_setCell_same _ S 5 _ _ (.int .i64 most) e5
  refine ⟨rfl, _, results_cell_row rfl _ _ S _ _ _ _ rfl e6 Try.underlying37 rfl (by kernel_rfl), ?_⟩
  refine ⟨rfl, ?_, ?_⟩
  · exact h.setNew (h.setNew (h.setNew (h.setNew (h.setNew (h.setNew (h.setNew hrd hSS1) hSS) hSS) hSS) hSS) hSS) hSS
  · exact g_set_new (g_set_new (g_set_new (g_set_new (g_set_new (g_set_new (g_set_new hG3.out hSS1) hSS) hSS) hSS) hSS) hSS) hSS
set_option maxHeartbeats 1000000 in
set_option maxRecDepth 100000 in
theorem get_x (R : Nat) (a : Option Addr) (cap : Nat) (bs : List Nat) (pos last err p1 l1 e1 : Nat) (most : Int) (y : List Nat) (call : Hid (∀ W, RD W R a cap bs pos last err → Calls Try.prog 35 #[.pointer (some ⟨R, 0, none⟩), .int .i64 most] W fun e w' => ∃ a2 c2, e = .returned (.slice a2 y.length c2) ∧ Bytes w' a2 y ∧ RD w' R a cap bs p1 l1 e1 ∧ W.grownBy w' (some R))) (w : World) (h : RD w R a cap bs pos last err) :
    Calls Try.prog 16 #[.pointer (some ⟨R, 0, none⟩), .int .i64 4, .int .i64 most] w fun e w' => e = .returned (RV.val ⟨4, 0, 0, false, str y, most⟩) ∧ RD w' R a cap bs p1 l1 e1 ∧ w.grownBy w' (some R) := by
  have hR := h.lt
  have hA : RD ((w.alloc (.cells #[.int .i64 0, .int .u64 0, .int .i64 0, .bool false, .string ByteArray.empty, .int .i64 0] 37)).alloc (.cells #[.int .i64 4, .int .u64 0, .int .i64 0, .bool false, .string ByteArray.empty, .int .i64 most] 37)) R a cap bs pos last err := (h.alloc _).alloc _
  have hG : w.grownBy ((w.alloc (.cells #[.int .i64 0, .int .u64 0, .int .i64 0, .bool false, .string ByteArray.empty, .int .i64 0] 37)).alloc (.cells #[.int .i64 4, .int .u64 0, .int .i64 0, .bool false, .string ByteArray.empty, .int .i64 most] 37)) (some R) := g_alloc (g_alloc (g_refl _ _) _) _
  have r0 : ((w.alloc (.cells #[.int .i64 0, .int .u64 0, .int .i64 0, .bool false, .string ByteArray.empty, .int .i64 0] 37)).alloc (.cells #[.int .i64 4, .int .u64 0, .int .i64 0, .bool false, .string ByteArray.empty, .int .i64 most] 37)).heap[w.heap.size]? = some (.cells #[.int .i64 0, .int .u64 0, .int .i64 0, .bool false, .string ByteArray.empty, .int .i64 0] 37 (0, 0)) := (Below.heap_alloc (w.alloc (.cells #[.int .i64 0, .int .u64 0, .int .i64 0, .bool false, .string ByteArray.empty, .int .i64 0] 37)) (.cells #[.int .i64 4, .int .u64 0, .int .i64 0, .bool false, .string ByteArray.empty, .int .i64 most] 37) w.heap.size (by simp)).trans (heap_alloc_new _ _)
  have r1 : ((w.alloc (.cells #[.int .i64 0, .int .u64 0, .int .i64 0, .bool false, .string ByteArray.empty, .int .i64 0] 37)).alloc (.cells #[.int .i64 4, .int .u64 0, .int .i64 0, .bool false, .string ByteArray.empty, .int .i64 most] 37)).heap[w.heap.size + 1]? = some (.cells #[.int .i64 4, .int .u64 0, .int .i64 0, .bool false, .string ByteArray.empty, .int .i64 most] 37 (0, 0)) := by rw [← World.size_alloc w (.cells #[.int .i64 0, .int .u64 0, .int .i64 0, .bool false, .string ByteArray.empty, .int .i64 0] 37)]; exact heap_alloc_new _ _
  have hsz : ((w.alloc (.cells #[.int .i64 0, .int .u64 0, .int .i64 0, .bool false, .string ByteArray.empty, .int .i64 0] 37)).alloc (.cells #[.int .i64 4, .int .u64 0, .int .i64 0, .bool false, .string ByteArray.empty, .int .i64 most] 37)).heap.size = w.heap.size + 2 := by simp
  have hr := call.out _ hA
  have hr2 := hidIt hr
  have hG2 := hidIt hG
  have r02 := hidIt r0
  have r12 := hidIt r1
  have hs2 := hidIt hsz
  clear hr hG r0 r1 hA hsz
  obtain ⟨so0, hso0⟩ : ∃ so, Hid (str y = so) := ⟨_, rfl⟩
  rw [hso0.out]
  go_enter Try.func16, Try.ntmps16
  go_wp2_with (fail)
  refine hr2.out.mono ?_
  rintro e w1 ⟨a2, c2, rfl, hby, hrd, hg⟩
  have hcv := conv_str w1 a2 _ c2 y rfl hby
  rw [hso0.out] at hcv
  clear hby
  have t0 := (hg.block w.heap.size (by rw [hs2.out]; omega) (by simp; omega)).trans r02.out
  have t1 := (hg.block (w.heap.size + 1) (by rw [hs2.out]; omega) (by simp; omega)).trans r12.out
  have hG3 := hidIt (g_trans hG2.out hg)
  clear hr2 hg r02 r12 hs2 hG2
  generalize hS : w.heap.size = S at *
  have c10 : w1.cell? ⟨S + 1, 0, none⟩ = some (.int .i64 4) := by rw [cell_of_row w1 (S + 1) 0 _ _ _ t1]; rfl
  have c11 : w1.cell? ⟨S + 1, 1, none⟩ = some (.int .u64 0) := by rw [cell_of_row w1 (S + 1) 1 _ _ _ t1]; rfl
  have c12 : w1.cell? ⟨S + 1, 2, none⟩ = some (.int .i64 0) := by rw [cell_of_row w1 (S + 1) 2 _ _ _ t1]; rfl
  have c13 : w1.cell? ⟨S + 1, 3, none⟩ = some (.bool false) := by rw [cell_of_row w1 (S + 1) 3 _ _ _ t1]; rfl
  have c14 : w1.cell? ⟨S + 1, 4, none⟩ = some (.string ByteArray.empty) := by rw [cell_of_row w1 (S + 1) 4 _ _ _ t1]; rfl
  have c15 : w1.cell? ⟨S + 1, 5, none⟩ = some (.int .i64 most) := by rw [cell_of_row w1 (S + 1) 5 _ _ _ t1]; rfl
  have c00 : w1.cell? ⟨S, 0, none⟩ = some (.int .i64 0) := by rw [cell_of_row w1 S 0 _ _ _ t0]; rfl
  have f00 := frozen_of_row w1 S 0 _ _ t0
  have c01 : w1.cell? ⟨S, 1, none⟩ = some (.int .u64 0) := by rw [cell_of_row w1 S 1 _ _ _ t0]; rfl
  have f01 := frozen_of_row w1 S 1 _ _ t0
  have c02 : w1.cell? ⟨S, 2, none⟩ = some (.int .i64 0) := by rw [cell_of_row w1 S 2 _ _ _ t0]; rfl
  have f02 := frozen_of_row w1 S 2 _ _ t0
  have c03 : w1.cell? ⟨S, 3, none⟩ = some (.bool false) := by rw [cell_of_row w1 S 3 _ _ _ t0]; rfl
  have f03 := frozen_of_row w1 S 3 _ _ t0
  have c04 : w1.cell? ⟨S, 4, none⟩ = some (.string ByteArray.empty) := by rw [cell_of_row w1 S 4 _ _ _ t0]; rfl
  have f04 := frozen_of_row w1 S 4 _ _ t0
  have c05 : w1.cell? ⟨S, 5, none⟩ = some (.int .i64 0) := by rw [cell_of_row w1 S 5 _ _ _ t0]; rfl
  have f05 := frozen_of_row w1 S 5 _ _ t0
  have f11 := frozen_of_row w1 (S + 1) 4 _ _ t1
  go_wp2_with (fail)
  have hSS : w.heap.size ≤ S := by omega
  have hSS1 : w.heap.size ≤ S + 1 := by omega
  have e0 := (heap_setCell_other w1 ⟨S + 1, 4, none⟩ S (.string so0) (fun e => by have : S = S + 1 := e; omega)).trans t0
  have e1 := heap_setCell_same _ S 0 _ _ (.int .i64 4) e0
  have e2 := heap_setCell_same _ S 1 _ _ (.int .u64 0) e1
  have e3 := heap_setCell_same _ S 2 _ _ (.int .i64 0) e2
  have e4 := heap_setCell_same _ S 3 _ _ (.bool false) e3
  have e5 := heap_setCell_same _ S 4 _ _ (.string so0) e4
  have e6 := heap_setCell_same _ S 5 _ _ (.int .i64 most) e5
  refine ⟨rfl, _, results_cell_row rfl _ _ S _ _ _ _ rfl e6 Try.underlying37 rfl (by kernel_rfl), ?_⟩
  refine ⟨rfl, ?_, ?_⟩
  · exact h.setNew (h.setNew (h.setNew (h.setNew (h.setNew (h.setNew (h.setNew hrd hSS1) hSS) hSS) hSS) hSS) hSS) hSS
  · exact g_set_new (g_set_new (g_set_new (g_set_new (g_set_new (g_set_new (g_set_new hG3.out hSS1) hSS) hSS) hSS) hSS) hSS) hSS
set_option maxHeartbeats 1000000 in
set_option maxRecDepth 100000 in
theorem get_t (R : Nat) (a : Option Addr) (cap : Nat) (bs : List Nat) (pos last err p1 l1 e1 : Nat) (most : Int) (y : ByteArray) (call : Hid (∀ W, RD W R a cap bs pos last err → Calls Try.prog 36 #[.pointer (some ⟨R, 0, none⟩), .int .i64 most] W fun e w' => e = .returned (.string y) ∧ RD w' R a cap bs p1 l1 e1 ∧ W.grownBy w' (some R))) (w : World) (h : RD w R a cap bs pos last err) :
    Calls Try.prog 16 #[.pointer (some ⟨R, 0, none⟩), .int .i64 5, .int .i64 most] w fun e w' => e = .returned (RV.val ⟨5, 0, 0, false, y, most⟩) ∧ RD w' R a cap bs p1 l1 e1 ∧ w.grownBy w' (some R) := by
  have hR := h.lt
  have hA : RD ((w.alloc (.cells #[.int .i64 0, .int .u64 0, .int .i64 0, .bool false, .string ByteArray.empty, .int .i64 0] 37)).alloc (.cells #[.int .i64 5, .int .u64 0, .int .i64 0, .bool false, .string ByteArray.empty, .int .i64 most] 37)) R a cap bs pos last err := (h.alloc _).alloc _
  have hG : w.grownBy ((w.alloc (.cells #[.int .i64 0, .int .u64 0, .int .i64 0, .bool false, .string ByteArray.empty, .int .i64 0] 37)).alloc (.cells #[.int .i64 5, .int .u64 0, .int .i64 0, .bool false, .string ByteArray.empty, .int .i64 most] 37)) (some R) := g_alloc (g_alloc (g_refl _ _) _) _
  have r0 : ((w.alloc (.cells #[.int .i64 0, .int .u64 0, .int .i64 0, .bool false, .string ByteArray.empty, .int .i64 0] 37)).alloc (.cells #[.int .i64 5, .int .u64 0, .int .i64 0, .bool false, .string ByteArray.empty, .int .i64 most] 37)).heap[w.heap.size]? = some (.cells #[.int .i64 0, .int .u64 0, .int .i64 0, .bool false, .string ByteArray.empty, .int .i64 0] 37 (0, 0)) := (Below.heap_alloc (w.alloc (.cells #[.int .i64 0, .int .u64 0, .int .i64 0, .bool false, .string ByteArray.empty, .int .i64 0] 37)) (.cells #[.int .i64 5, .int .u64 0, .int .i64 0, .bool false, .string ByteArray.empty, .int .i64 most] 37) w.heap.size (by simp)).trans (heap_alloc_new _ _)
  have r1 : ((w.alloc (.cells #[.int .i64 0, .int .u64 0, .int .i64 0, .bool false, .string ByteArray.empty, .int .i64 0] 37)).alloc (.cells #[.int .i64 5, .int .u64 0, .int .i64 0, .bool false, .string ByteArray.empty, .int .i64 most] 37)).heap[w.heap.size + 1]? = some (.cells #[.int .i64 5, .int .u64 0, .int .i64 0, .bool false, .string ByteArray.empty, .int .i64 most] 37 (0, 0)) := by rw [← World.size_alloc w (.cells #[.int .i64 0, .int .u64 0, .int .i64 0, .bool false, .string ByteArray.empty, .int .i64 0] 37)]; exact heap_alloc_new _ _
  have hsz : ((w.alloc (.cells #[.int .i64 0, .int .u64 0, .int .i64 0, .bool false, .string ByteArray.empty, .int .i64 0] 37)).alloc (.cells #[.int .i64 5, .int .u64 0, .int .i64 0, .bool false, .string ByteArray.empty, .int .i64 most] 37)).heap.size = w.heap.size + 2 := by simp
  have hr := call.out _ hA
  have hr2 := hidIt hr
  have hG2 := hidIt hG
  have r02 := hidIt r0
  have r12 := hidIt r1
  have hs2 := hidIt hsz
  clear hr hG r0 r1 hA hsz
  go_enter Try.func16, Try.ntmps16
  go_wp2_with (fail)
  refine hr2.out.mono ?_
  rintro e w1 ⟨rfl, hrd, hg⟩
  have t0 := (hg.block w.heap.size (by rw [hs2.out]; omega) (by simp; omega)).trans r02.out
  have t1 := (hg.block (w.heap.size + 1) (by rw [hs2.out]; omega) (by simp; omega)).trans r12.out
  have hG3 := hidIt (g_trans hG2.out hg)
  clear hr2 hg r02 r12 hs2 hG2
  generalize hS : w.heap.size = S at *
  have c10 : w1.cell? ⟨S + 1, 0, none⟩ = some (.int .i64 5) := by rw [cell_of_row w1 (S + 1) 0 _ _ _ t1]; rfl
  have c11 : w1.cell? ⟨S + 1, 1, none⟩ = some (.int .u64 0) := by rw [cell_of_row w1 (S + 1) 1 _ _ _ t1]; rfl
  have c12 : w1.cell? ⟨S + 1, 2, none⟩ = some (.int .i64 0) := by rw [cell_of_row w1 (S + 1) 2 _ _ _ t1]; rfl
  have c13 : w1.cell? ⟨S + 1, 3, none⟩ = some (.bool false) := by rw [cell_of_row w1 (S + 1) 3 _ _ _ t1]; rfl
  have c14 : w1.cell? ⟨S + 1, 4, none⟩ = some (.string ByteArray.empty) := by rw [cell_of_row w1 (S + 1) 4 _ _ _ t1]; rfl
  have c15 : w1.cell? ⟨S + 1, 5, none⟩ = some (.int .i64 most) := by rw [cell_of_row w1 (S + 1) 5 _ _ _ t1]; rfl
  have c00 : w1.cell? ⟨S, 0, none⟩ = some (.int .i64 0) := by rw [cell_of_row w1 S 0 _ _ _ t0]; rfl
  have f00 := frozen_of_row w1 S 0 _ _ t0
  have c01 : w1.cell? ⟨S, 1, none⟩ = some (.int .u64 0) := by rw [cell_of_row w1 S 1 _ _ _ t0]; rfl
  have f01 := frozen_of_row w1 S 1 _ _ t0
  have c02 : w1.cell? ⟨S, 2, none⟩ = some (.int .i64 0) := by rw [cell_of_row w1 S 2 _ _ _ t0]; rfl
  have f02 := frozen_of_row w1 S 2 _ _ t0
  have c03 : w1.cell? ⟨S, 3, none⟩ = some (.bool false) := by rw [cell_of_row w1 S 3 _ _ _ t0]; rfl
  have f03 := frozen_of_row w1 S 3 _ _ t0
  have c04 : w1.cell? ⟨S, 4, none⟩ = some (.string ByteArray.empty) := by rw [cell_of_row w1 S 4 _ _ _ t0]; rfl
  have f04 := frozen_of_row w1 S 4 _ _ t0
  have c05 : w1.cell? ⟨S, 5, none⟩ = some (.int .i64 0) := by rw [cell_of_row w1 S 5 _ _ _ t0]; rfl
  have f05 := frozen_of_row w1 S 5 _ _ t0
  have f11 := frozen_of_row w1 (S + 1) 4 _ _ t1
  go_wp2_with (fail)
  have hSS : w.heap.size ≤ S := by omega
  have hSS1 : w.heap.size ≤ S + 1 := by omega
  have e0 := (heap_setCell_other w1 ⟨S + 1, 4, none⟩ S (.string y) (fun e => by have : S = S + 1 := e; omega)).trans t0
  have e1 := heap_setCell_same _ S 0 _ _ (.int .i64 5) e0
  have e2 := heap_setCell_same _ S 1 _ _ (.int .u64 0) e1
  have e3 := heap_setCell_same _ S 2 _ _ (.int .i64 0) e2
  have e4 := heap_setCell_same _ S 3 _ _ (.bool false) e3
  have e5 := heap_setCell_same _ S 4 _ _ (.string y) e4
  have e6 := heap_setCell_same _ S 5 _ _ (.int .i64 most) e5
  refine ⟨rfl, _, results_cell_row rfl _ _ S _ _ _ _ rfl e6 Try.underlying37 rfl (by kernel_rfl), ?_⟩
  refine ⟨rfl, ?_, ?_⟩
  · exact h.setNew (h.setNew (h.setNew (h.setNew (h.setNew (h.setNew (h.setNew hrd hSS1) hSS) hSS) hSS) hSS) hSS) hSS
  · exact g_set_new (g_set_new (g_set_new (g_set_new (g_set_new (g_set_new (g_set_new hG3.out hSS1) hSS) hSS) hSS) hSS) hSS) hSS
set_option maxHeartbeats 1000000 in
set_option maxRecDepth 100000 in
theorem get_s (R : Nat) (a : Option Addr) (cap : Nat) (bs : List Nat) (pos last err p1 l1 e1 : Nat) (most : Int) (y : ByteArray) (call : Hid (∀ W, RD W R a cap bs pos last err → Calls Try.prog 37 #[.pointer (some ⟨R, 0, none⟩)] W fun e w' => e = .returned (.string y) ∧ RD w' R a cap bs p1 l1 e1 ∧ W.grownBy w' (some R))) (w : World) (h : RD w R a cap bs pos last err) :
    Calls Try.prog 16 #[.pointer (some ⟨R, 0, none⟩), .int .i64 6, .int .i64 most] w fun e w' => e = .returned (RV.val ⟨6, 0, 0, false, y, most⟩) ∧ RD w' R a cap bs p1 l1 e1 ∧ w.grownBy w' (some R) := by
  have hR := h.lt
  have hA : RD ((w.alloc (.cells #[.int .i64 0, .int .u64 0, .int .i64 0, .bool false, .string ByteArray.empty, .int .i64 0] 37)).alloc (.cells #[.int .i64 6, .int .u64 0, .int .i64 0, .bool false, .string ByteArray.empty, .int .i64 most] 37)) R a cap bs pos last err := (h.alloc _).alloc _
  have hG : w.grownBy ((w.alloc (.cells #[.int .i64 0, .int .u64 0, .int .i64 0, .bool false, .string ByteArray.empty, .int .i64 0] 37)).alloc (.cells #[.int .i64 6, .int .u64 0, .int .i64 0, .bool false, .string ByteArray.empty, .int .i64 most] 37)) (some R) := g_alloc (g_alloc (g_refl _ _) _) _
  have r0 : ((w.alloc (.cells #[.int .i64 0, .int .u64 0, .int .i64 0, .bool false, .string ByteArray.empty, .int .i64 0] 37)).alloc (.cells #[.int .i64 6, .int .u64 0, .int .i64 0, .bool false, .string ByteArray.empty, .int .i64 most] 37)).heap[w.heap.size]? = some (.cells #[.int .i64 0, .int .u64 0, .int .i64 0, .bool false, .string ByteArray.empty, .int .i64 0] 37 (0, 0)) := (Below.heap_alloc (w.alloc (.cells #[.int .i64 0, .int .u64 0, .int .i64 0, .bool false, .string ByteArray.empty, .int .i64 0] 37)) (.cells #[.int .i64 6, .int .u64 0, .int .i64 0, .bool false, .string ByteArray.empty, .int .i64 most] 37) w.heap.size (by simp)).trans (heap_alloc_new _ _)
  have r1 : ((w.alloc (.cells #[.int .i64 0, .int .u64 0, .int .i64 0, .bool false, .string ByteArray.empty, .int .i64 0] 37)).alloc (.cells #[.int .i64 6, .int .u64 0, .int .i64 0, .bool false, .string ByteArray.empty, .int .i64 most] 37)).heap[w.heap.size + 1]? = some (.cells #[.int .i64 6, .int .u64 0, .int .i64 0, .bool false, .string ByteArray.empty, .int .i64 most] 37 (0, 0)) := by rw [← World.size_alloc w (.cells #[.int .i64 0, .int .u64 0, .int .i64 0, .bool false, .string ByteArray.empty, .int .i64 0] 37)]; exact heap_alloc_new _ _
  have hsz : ((w.alloc (.cells #[.int .i64 0, .int .u64 0, .int .i64 0, .bool false, .string ByteArray.empty, .int .i64 0] 37)).alloc (.cells #[.int .i64 6, .int .u64 0, .int .i64 0, .bool false, .string ByteArray.empty, .int .i64 most] 37)).heap.size = w.heap.size + 2 := by simp
  have hr := call.out _ hA
  have hr2 := hidIt hr
  have hG2 := hidIt hG
  have r02 := hidIt r0
  have r12 := hidIt r1
  have hs2 := hidIt hsz
  clear hr hG r0 r1 hA hsz
  go_enter Try.func16, Try.ntmps16
  go_wp2_with (fail)
  refine hr2.out.mono ?_
  rintro e w1 ⟨rfl, hrd, hg⟩
  have t0 := (hg.block w.heap.size (by rw [hs2.out]; omega) (by simp; omega)).trans r02.out
  have t1 := (hg.block (w.heap.size + 1) (by rw [hs2.out]; omega) (by simp; omega)).trans r12.out
  have hG3 := hidIt (g_trans hG2.out hg)
  clear hr2 hg r02 r12 hs2 hG2
  generalize hS : w.heap.size = S at *
  have c10 : w1.cell? ⟨S + 1, 0, none⟩ = some (.int .i64 6) := by rw [cell_of_row w1 (S + 1) 0 _ _ _ t1]; rfl
  have c11 : w1.cell? ⟨S + 1, 1, none⟩ = some (.int .u64 0) := by rw [cell_of_row w1 (S + 1) 1 _ _ _ t1]; rfl
  have c12 : w1.cell? ⟨S + 1, 2, none⟩ = some (.int .i64 0) := by rw [cell_of_row w1 (S + 1) 2 _ _ _ t1]; rfl
  have c13 : w1.cell? ⟨S + 1, 3, none⟩ = some (.bool false) := by rw [cell_of_row w1 (S + 1) 3 _ _ _ t1]; rfl
  have c14 : w1.cell? ⟨S + 1, 4, none⟩ = some (.string ByteArray.empty) := by rw [cell_of_row w1 (S + 1) 4 _ _ _ t1]; rfl
  have c15 : w1.cell? ⟨S + 1, 5, none⟩ = some (.int .i64 most) := by rw [cell_of_row w1 (S + 1) 5 _ _ _ t1]; rfl
  have c00 : w1.cell? ⟨S, 0, none⟩ = some (.int .i64 0) := by rw [cell_of_row w1 S 0 _ _ _ t0]; rfl
  have f00 := frozen_of_row w1 S 0 _ _ t0
  have c01 : w1.cell? ⟨S, 1, none⟩ = some (.int .u64 0) := by rw [cell_of_row w1 S 1 _ _ _ t0]; rfl
  have f01 := frozen_of_row w1 S 1 _ _ t0
  have c02 : w1.cell? ⟨S, 2, none⟩ = some (.int .i64 0) := by rw [cell_of_row w1 S 2 _ _ _ t0]; rfl
  have f02 := frozen_of_row w1 S 2 _ _ t0
  have c03 : w1.cell? ⟨S, 3, none⟩ = some (.bool false) := by rw [cell_of_row w1 S 3 _ _ _ t0]; rfl
  have f03 := frozen_of_row w1 S 3 _ _ t0
  have c04 : w1.cell? ⟨S, 4, none⟩ = some (.string ByteArray.empty) := by rw [cell_of_row w1 S 4 _ _ _ t0]; rfl
  have f04 := frozen_of_row w1 S 4 _ _ t0
  have c05 : w1.cell? ⟨S, 5, none⟩ = some (.int .i64 0) := by rw [cell_of_row w1 S 5 _ _ _ t0]; rfl
  have f05 := frozen_of_row w1 S 5 _ _ t0
  have f11 := frozen_of_row w1 (S + 1) 4 _ _ t1
  go_wp2_with (fail)
  have hSS : w.heap.size ≤ S := by omega
  have hSS1 : w.heap.size ≤ S + 1 := by omega
  have e0 := (heap_setCell_other w1 ⟨S + 1, 4, none⟩ S (.string y) (fun e => by have : S = S + 1 := e; omega)).trans t0
  have e1 := heap_setCell_same _ S 0 _ _ (.int .i64 6) e0
  have e2 := heap_setCell_same _ S 1 _ _ (.int .u64 0) e1
  have e3 := heap_setCell_same _ S 2 _ _ (.int .i64 0) e2
  have e4 := heap_setCell_same _ S 3 _ _ (.bool false) e3
  have e5 := heap_setCell_same _ S 4 _ _ (.string y) e4
  have e6 := heap_setCell_same _ S 5 _ _ (.int .i64 most) e5
  refine ⟨rfl, _, results_cell_row rfl _ _ S _ _ _ _ rfl e6 Try.underlying37 rfl (by kernel_rfl), ?_⟩
  refine ⟨rfl, ?_, ?_⟩
  · exact h.setNew (h.setNew (h.setNew (h.setNew (h.setNew (h.setNew (h.setNew hrd hSS1) hSS) hSS) hSS) hSS) hSS) hSS
  · exact g_set_new (g_set_new (g_set_new (g_set_new (g_set_new (g_set_new (g_set_new hG3.out hSS1) hSS) hSS) hSS) hSS) hSS) hSS
set_option maxHeartbeats 1000000 in
set_option maxRecDepth 100000 in
theorem get_n (R : Nat) (a : Option Addr) (cap : Nat) (bs : List Nat) (pos last err p1 l1 e1 : Nat) (most : Int) (y : Int) (call : Hid (∀ W, RD W R a cap bs pos last err → Calls Try.prog 38 #[.pointer (some ⟨R, 0, none⟩), .int .i64 most] W fun e w' => e = .returned (.int .i64 y) ∧ RD w' R a cap bs p1 l1 e1 ∧ W.grownBy w' (some R))) (w : World) (h : RD w R a cap bs pos last err) :
    Calls Try.prog 16 #[.pointer (some ⟨R, 0, none⟩), .int .i64 7, .int .i64 most] w fun e w' => e = .returned (RV.val ⟨7, 0, y, false, ByteArray.empty, most⟩) ∧ RD w' R a cap bs p1 l1 e1 ∧ w.grownBy w' (some R) := by
  have hR := h.lt
  have hA : RD ((w.alloc (.cells #[.int .i64 0, .int .u64 0, .int .i64 0, .bool false, .string ByteArray.empty, .int .i64 0] 37)).alloc (.cells #[.int .i64 7, .int .u64 0, .int .i64 0, .bool false, .string ByteArray.empty, .int .i64 most] 37)) R a cap bs pos last err := (h.alloc _).alloc _
  have hG : w.grownBy ((w.alloc (.cells #[.int .i64 0, .int .u64 0, .int .i64 0, .bool false, .string ByteArray.empty, .int .i64 0] 37)).alloc (.cells #[.int .i64 7, .int .u64 0, .int .i64 0, .bool false, .string ByteArray.empty, .int .i64 most] 37)) (some R) := g_alloc (g_alloc (g_refl _ _) _) _
  have r0 : ((w.alloc (.cells #[.int .i64 0, .int .u64 0, .int .i64 0, .bool false, .string ByteArray.empty, .int .i64 0] 37)).alloc (.cells #[.int .i64 7, .int .u64 0, .int .i64 0, .bool false, .string ByteArray.empty, .int .i64 most] 37)).heap[w.heap.size]? = some (.cells #[.int .i64 0, .int .u64 0, .int .i64 0, .bool false, .string ByteArray.empty, .int .i64 0] 37 (0, 0)) := (Below.heap_alloc (w.alloc (.cells #[.int .i64 0, .int .u64 0, .int .i64 0, .bool false, .string ByteArray.empty, .int .i64 0] 37)) (.cells #[.int .i64 7, .int .u64 0, .int .i64 0, .bool false, .string ByteArray.empty, .int .i64 most] 37) w.heap.size (by simp)).trans (heap_alloc_new _ _)
  have r1 : ((w.alloc (.cells #[.int .i64 0, .int .u64 0, .int .i64 0, .bool false, .string ByteArray.empty, .int .i64 0] 37)).alloc (.cells #[.int .i64 7, .int .u64 0, .int .i64 0, .bool false, .string ByteArray.empty, .int .i64 most] 37)).heap[w.heap.size + 1]? = some (.cells #[.int .i64 7, .int .u64 0, .int .i64 0, .bool false, .string ByteArray.empty, .int .i64 most] 37 (0, 0)) := by rw [← World.size_alloc w (.cells #[.int .i64 0, .int .u64 0, .int .i64 0, .bool false, .string ByteArray.empty, .int .i64 0] 37)]; exact heap_alloc_new _ _
  have hsz : ((w.alloc (.cells #[.int .i64 0, .int .u64 0, .int .i64 0, .bool false, .string ByteArray.empty, .int .i64 0] 37)).alloc (.cells #[.int .i64 7, .int .u64 0, .int .i64 0, .bool false, .string ByteArray.empty, .int .i64 most] 37)).heap.size = w.heap.size + 2 := by simp
  have hr := call.out _ hA
  have hr2 := hidIt hr
  have hG2 := hidIt hG
  have r02 := hidIt r0
  have r12 := hidIt r1
  have hs2 := hidIt hsz
  clear hr hG r0 r1 hA hsz
  go_enter Try.func16, Try.ntmps16
  go_wp2_with (fail)
  refine hr2.out.mono ?_
  rintro e w1 ⟨rfl, hrd, hg⟩
  have t0 := (hg.block w.heap.size (by rw [hs2.out]; omega) (by simp; omega)).trans r02.out
  have t1 := (hg.block (w.heap.size + 1) (by rw [hs2.out]; omega) (by simp; omega)).trans r12.out
  have hG3 := hidIt (g_trans hG2.out hg)
  clear hr2 hg r02 r12 hs2 hG2
  generalize hS : w.heap.size = S at *
  have c10 : w1.cell? ⟨S + 1, 0, none⟩ = some (.int .i64 7) := by rw [cell_of_row w1 (S + 1) 0 _ _ _ t1]; rfl
  have c11 : w1.cell? ⟨S + 1, 1, none⟩ = some (.int .u64 0) := by rw [cell_of_row w1 (S + 1) 1 _ _ _ t1]; rfl
  have c12 : w1.cell? ⟨S + 1, 2, none⟩ = some (.int .i64 0) := by rw [cell_of_row w1 (S + 1) 2 _ _ _ t1]; rfl
  have c13 : w1.cell? ⟨S + 1, 3, none⟩ = some (.bool false) := by rw [cell_of_row w1 (S + 1) 3 _ _ _ t1]; rfl
  have c14 : w1.cell? ⟨S + 1, 4, none⟩ = some (.string ByteArray.empty) := by rw [cell_of_row w1 (S + 1) 4 _ _ _ t1]; rfl
  have c15 : w1.cell? ⟨S + 1, 5, none⟩ = some (.int .i64 most) := by rw [cell_of_row w1 (S + 1) 5 _ _ _ t1]; rfl
  have c00 : w1.cell? ⟨S, 0, none⟩ = some (.int .i64 0) := by rw [cell_of_row w1 S 0 _ _ _ t0]; rfl
  have f00 := frozen_of_row w1 S 0 _ _ t0
  have c01 : w1.cell? ⟨S, 1, none⟩ = some (.int .u64 0) := by rw [cell_of_row w1 S 1 _ _ _ t0]; rfl
  have f01 := frozen_of_row w1 S 1 _ _ t0
  have c02 : w1.cell? ⟨S, 2, none⟩ = some (.int .i64 0) := by rw [cell_of_row w1 S 2 _ _ _ t0]; rfl
  have f02 := frozen_of_row w1 S 2 _ _ t0
  have c03 : w1.cell? ⟨S, 3, none⟩ = some (.bool false) := by rw [cell_of_row w1 S 3 _ _ _ t0]; rfl
  have f03 := frozen_of_row w1 S 3 _ _ t0
  have c04 : w1.cell? ⟨S, 4, none⟩ = some (.string ByteArray.empty) := by rw [cell_of_row w1 S 4 _ _ _ t0]; rfl
  have f04 := frozen_of_row w1 S 4 _ _ t0
  have c05 : w1.cell? ⟨S, 5, none⟩ = some (.int .i64 0) := by rw [cell_of_row w1 S 5 _ _ _ t0]; rfl
  have f05 := frozen_of_row w1 S 5 _ _ t0
  have f11 := frozen_of_row w1 (S + 1) 2 _ _ t1
  go_wp2_with (fail)
  have hSS : w.heap.size ≤ S := by omega
  have hSS1 : w.heap.size ≤ S + 1 := by omega
  have e0 := (heap_setCell_other w1 ⟨S + 1, 2, none⟩ S (.int .i64 y) (fun e => by have : S = S + 1 := e; omega)).trans t0
  have e1 := heap_setCell_same _ S 0 _ _ (.int .i64 7) e0
  have e2 := heap_setCell_same _ S 1 _ _ (.int .u64 0) e1
  have e3 := heap_setCell_same _ S 2 _ _ (.int .i64 y) e2
  have e4 := heap_setCell_same _ S 3 _ _ (.bool false) e3
  have e5 := heap_setCell_same _ S 4 _ _ (.string ByteArray.empty) e4
  have e6 := heap_setCell_same _ S 5 _ _ (.int .i64 most) e5
  refine ⟨rfl, _, results_cell_row rfl _ _ S _ _ _ _ rfl e6 Try.underlying37 rfl (by kernel_rfl), ?_⟩
  refine ⟨rfl, ?_, ?_⟩
  · exact h.setNew (h.setNew (h.setNew (h.setNew (h.setNew (h.setNew (h.setNew hrd hSS1) hSS) hSS) hSS) hSS) hSS) hSS
  · exact g_set_new (g_set_new (g_set_new (g_set_new (g_set_new (g_set_new (g_set_new hG3.out hSS1) hSS) hSS) hSS) hSS) hSS) hSS
end Go.Proofs.Ytfdbdhknamkipaa
