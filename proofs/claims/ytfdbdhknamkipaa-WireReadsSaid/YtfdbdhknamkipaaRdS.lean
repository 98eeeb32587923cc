import Derived.Test.YtfdbdhknamkipaaRdR
namespace Go.Proofs.Ytfdbdhknamkipaa
open Go.RowKit
structure Two (w1 : World) (S : Nat) (kind most : Int) : Prop where
  c10 : w1.cell? ⟨S + 1, 0, none⟩ = some (.int .i64 kind)
  c11 : w1.cell? ⟨S + 1, 1, none⟩ = some (.int .u64 0)
  c12 : w1.cell? ⟨S + 1, 2, none⟩ = some (.int .i64 0)
  c13 : w1.cell? ⟨S + 1, 3, none⟩ = some (.bool false)
  c14 : w1.cell? ⟨S + 1, 4, none⟩ = some (.string ⟨#[]⟩)
  c15 : w1.cell? ⟨S + 1, 5, none⟩ = some (.int .i64 most)
  f10 : w1.frozen? ⟨S + 1, 0, none⟩ = false
  f11 : w1.frozen? ⟨S + 1, 1, none⟩ = false
  f12 : w1.frozen? ⟨S + 1, 2, none⟩ = false
  f13 : w1.frozen? ⟨S + 1, 3, none⟩ = false
  f14 : w1.frozen? ⟨S + 1, 4, none⟩ = false
  f15 : w1.frozen? ⟨S + 1, 5, none⟩ = false
  c00 : w1.cell? ⟨S, 0, none⟩ = some (.int .i64 0)
  c01 : w1.cell? ⟨S, 1, none⟩ = some (.int .u64 0)
  c02 : w1.cell? ⟨S, 2, none⟩ = some (.int .i64 0)
  c03 : w1.cell? ⟨S, 3, none⟩ = some (.bool false)
  c04 : w1.cell? ⟨S, 4, none⟩ = some (.string ⟨#[]⟩)
  c05 : w1.cell? ⟨S, 5, none⟩ = some (.int .i64 0)
  f00 : w1.frozen? ⟨S, 0, none⟩ = false
  f01 : w1.frozen? ⟨S, 1, none⟩ = false
  f02 : w1.frozen? ⟨S, 2, none⟩ = false
  f03 : w1.frozen? ⟨S, 3, none⟩ = false
  f04 : w1.frozen? ⟨S, 4, none⟩ = false
  f05 : w1.frozen? ⟨S, 5, none⟩ = false
theorem two_of {w1 : World} {S : Nat} {kind most : Int} (t0 : w1.heap[S]? = some (.cells #[.int .i64 0, .int .u64 0, .int .i64 0, .bool false, .string ⟨#[]⟩, .int .i64 0] 37)) (t1 : w1.heap[S + 1]? = some (.cells #[.int .i64 kind, .int .u64 0, .int .i64 0, .bool false, .string ⟨#[]⟩, .int .i64 most] 37)) : Two w1 S kind most :=
  ⟨by rw [cell_of_row w1 (S + 1) 0 _ _ _ t1]; rfl,
   by rw [cell_of_row w1 (S + 1) 1 _ _ _ t1]; rfl,
   by rw [cell_of_row w1 (S + 1) 2 _ _ _ t1]; rfl,
   by rw [cell_of_row w1 (S + 1) 3 _ _ _ t1]; rfl,
   by rw [cell_of_row w1 (S + 1) 4 _ _ _ t1]; rfl,
   by rw [cell_of_row w1 (S + 1) 5 _ _ _ t1]; rfl,
   frozen_of_row w1 (S + 1) 0 _ _ t1,
   frozen_of_row w1 (S + 1) 1 _ _ t1,
   frozen_of_row w1 (S + 1) 2 _ _ t1,
   frozen_of_row w1 (S + 1) 3 _ _ t1,
   frozen_of_row w1 (S + 1) 4 _ _ t1,
   frozen_of_row w1 (S + 1) 5 _ _ t1,
   by rw [cell_of_row w1 S 0 _ _ _ t0]; rfl,
   by rw [cell_of_row w1 S 1 _ _ _ t0]; rfl,
   by rw [cell_of_row w1 S 2 _ _ _ t0]; rfl,
   by rw [cell_of_row w1 S 3 _ _ _ t0]; rfl,
   by rw [cell_of_row w1 S 4 _ _ _ t0]; rfl,
   by rw [cell_of_row w1 S 5 _ _ _ t0]; rfl,
   frozen_of_row w1 S 0 _ _ t0,
   frozen_of_row w1 S 1 _ _ t0,
   frozen_of_row w1 S 2 _ _ t0,
   frozen_of_row w1 S 3 _ _ t0,
   frozen_of_row w1 S 4 _ _ t0,
   frozen_of_row w1 S 5 _ _ t0⟩
set_option maxRecDepth 100000 in
set_option maxHeartbeats 4000000 in
theorem refread_none (a : Option Addr) (cap : Nat) (bs : List Nat) (pos : Nat) (kind : Int) (most : Int) (hpos : pos ≤ bs.length) (hsz : bs.length ≤ 1000) (hcap : bs.length ≤ cap) (hlt : ∀ x ∈ bs, x < 256) (k3 : ¬ kind = 3) (k6 : ¬ kind = 6) (hn : En.num (bs.drop pos) = none) (w : World) (h : Bytes w a bs) :
    Calls Try.prog 39 #[.slice a bs.length cap, .int .i64 pos, .int .i64 kind, .int .i64 most] w fun e w' => e = readE (zeroV kind most, pos, 3) ∧ Below w.heap.size w w' := by
  have hr := refnumber_any a cap bs pos hpos hsz hcap hlt ((w.alloc (.cells #[.int .i64 0, .int .u64 0, .int .i64 0, .bool false, .string ⟨#[]⟩, .int .i64 0] 37)).alloc (.cells #[.int .i64 kind, .int .u64 0, .int .i64 0, .bool false, .string ⟨#[]⟩, .int .i64 most] 37)) (Bytes.below h (below_two w _ _))
  rw [hn] at hr
  simp only [numV] at hr
  have r0 := hidIt ((row_under w (.cells #[.int .i64 0, .int .u64 0, .int .i64 0, .bool false, .string ⟨#[]⟩, .int .i64 0] 37) (.cells #[.int .i64 kind, .int .u64 0, .int .i64 0, .bool false, .string ⟨#[]⟩, .int .i64 most] 37)).trans (heap_alloc_new w (.cells #[.int .i64 0, .int .u64 0, .int .i64 0, .bool false, .string ⟨#[]⟩, .int .i64 0] 37)))
  have r1 : Hid (((w.alloc (.cells #[.int .i64 0, .int .u64 0, .int .i64 0, .bool false, .string ⟨#[]⟩, .int .i64 0] 37)).alloc (.cells #[.int .i64 kind, .int .u64 0, .int .i64 0, .bool false, .string ⟨#[]⟩, .int .i64 most] 37)).heap[w.heap.size + 1]? = some (.cells #[.int .i64 kind, .int .u64 0, .int .i64 0, .bool false, .string ⟨#[]⟩, .int .i64 most] 37)) := by rw [← World.size_alloc w (.cells #[.int .i64 0, .int .u64 0, .int .i64 0, .bool false, .string ⟨#[]⟩, .int .i64 0] 37)]; exact heap_alloc_new _ _
  have hS2 : Hid (((w.alloc (.cells #[.int .i64 0, .int .u64 0, .int .i64 0, .bool false, .string ⟨#[]⟩, .int .i64 0] 37)).alloc (.cells #[.int .i64 kind, .int .u64 0, .int .i64 0, .bool false, .string ⟨#[]⟩, .int .i64 most] 37)).heap.size = w.heap.size + 2) := by show _ = _; simp
  have hBt := hidIt (below_two w (.cells #[.int .i64 0, .int .u64 0, .int .i64 0, .bool false, .string ⟨#[]⟩, .int .i64 0] 37) (.cells #[.int .i64 kind, .int .u64 0, .int .i64 0, .bool false, .string ⟨#[]⟩, .int .i64 most] 37))
  have hr2 := hidIt hr
  have hb := hidIt h
  clear hr h
  go_enter Try.func39, Try.ntmps39
  go_wp2_with (fail)
  refine hr2.out.mono ?_
  rintro e w1 ⟨rfl, hb1⟩
  have t0 := (hb1.block w.heap.size (by rw [hS2.out]; omega)).trans r0.out
  have t1 := (hb1.block (w.heap.size + 1) (by rw [hS2.out]; omega)).trans r1.out
  have H1 : Hid (Below w.heap.size w w1) := below_then hBt.out hb1
  clear hr2 hb1 r0 r1 hS2 hBt hb
  generalize hS : w.heap.size = S at *
  obtain ⟨c10, c11, c12, c13, c14, c15, f10, f11, f12, f13, f14, f15, c00, c01, c02, c03, c04, c05, f00, f01, f02, f03, f04, f05⟩ := two_of t0 t1
  go_wp2_with (fail)
  have e0 := t0
  have e1 := heap_setCell_same _ S 0 _ _ (.int .i64 kind) e0
  have e2 := heap_setCell_same _ S 1 _ _ (.int .u64 0) e1
  have e3 := heap_setCell_same _ S 2 _ _ (.int .i64 0) e2
  have e4 := heap_setCell_same _ S 3 _ _ (.bool false) e3
  have e5 := heap_setCell_same _ S 4 _ _ (.string ⟨#[]⟩) e4
  have e6 := heap_setCell_same _ S 5 _ _ (.int .i64 most) e5
  refine ⟨rfl, _, results_cell3 rfl _ _ S _ _ _ _ rfl e6 Try.underlying37 rfl (by kernel_rfl), ?_⟩
  exact ⟨rfl, by subst hS; exact (below_set (below_set (below_set (below_set (below_set (below_set H1.out (by omega)) (by omega)) (by omega)) (by omega)) (by omega)) (by omega))⟩
set_option maxRecDepth 100000 in
set_option maxHeartbeats 4000000 in
theorem refread_1 (a : Option Addr) (cap : Nat) (bs : List Nat) (pos : Nat) (most : Int) (hpos : pos ≤ bs.length) (hsz : bs.length ≤ 1000) (hcap : bs.length ≤ cap) (hlt : ∀ x ∈ bs, x < 256) (n k : Nat) (hn : En.num (bs.drop pos) = some (n, k)) (w : World) (h : Bytes w a bs) :
    Calls Try.prog 39 #[.slice a bs.length cap, .int .i64 pos, .int .i64 1, .int .i64 most] w fun e w' => e = readE (⟨1, n, 0, false, ByteArray.empty, most⟩, pos + k, 0) ∧ Below w.heap.size w w' := by
  have hr := refnumber_any a cap bs pos hpos hsz hcap hlt ((w.alloc (.cells #[.int .i64 0, .int .u64 0, .int .i64 0, .bool false, .string ⟨#[]⟩, .int .i64 0] 37)).alloc (.cells #[.int .i64 1, .int .u64 0, .int .i64 0, .bool false, .string ⟨#[]⟩, .int .i64 most] 37)) (Bytes.below h (below_two w _ _))
  rw [hn] at hr
  simp only [numV] at hr
  have r0 := hidIt ((row_under w (.cells #[.int .i64 0, .int .u64 0, .int .i64 0, .bool false, .string ⟨#[]⟩, .int .i64 0] 37) (.cells #[.int .i64 1, .int .u64 0, .int .i64 0, .bool false, .string ⟨#[]⟩, .int .i64 most] 37)).trans (heap_alloc_new w (.cells #[.int .i64 0, .int .u64 0, .int .i64 0, .bool false, .string ⟨#[]⟩, .int .i64 0] 37)))
  have r1 : Hid (((w.alloc (.cells #[.int .i64 0, .int .u64 0, .int .i64 0, .bool false, .string ⟨#[]⟩, .int .i64 0] 37)).alloc (.cells #[.int .i64 1, .int .u64 0, .int .i64 0, .bool false, .string ⟨#[]⟩, .int .i64 most] 37)).heap[w.heap.size + 1]? = some (.cells #[.int .i64 1, .int .u64 0, .int .i64 0, .bool false, .string ⟨#[]⟩, .int .i64 most] 37)) := by rw [← World.size_alloc w (.cells #[.int .i64 0, .int .u64 0, .int .i64 0, .bool false, .string ⟨#[]⟩, .int .i64 0] 37)]; exact heap_alloc_new _ _
  have hS2 : Hid (((w.alloc (.cells #[.int .i64 0, .int .u64 0, .int .i64 0, .bool false, .string ⟨#[]⟩, .int .i64 0] 37)).alloc (.cells #[.int .i64 1, .int .u64 0, .int .i64 0, .bool false, .string ⟨#[]⟩, .int .i64 most] 37)).heap.size = w.heap.size + 2) := by show _ = _; simp
  have hBt := hidIt (below_two w (.cells #[.int .i64 0, .int .u64 0, .int .i64 0, .bool false, .string ⟨#[]⟩, .int .i64 0] 37) (.cells #[.int .i64 1, .int .u64 0, .int .i64 0, .bool false, .string ⟨#[]⟩, .int .i64 most] 37))
  have hr2 := hidIt hr
  have hb := hidIt h
  clear hr h
  go_enter Try.func39, Try.ntmps39
  go_wp2_with (fail)
  refine hr2.out.mono ?_
  rintro e w1 ⟨rfl, hb1⟩
  have t0 := (hb1.block w.heap.size (by rw [hS2.out]; omega)).trans r0.out
  have t1 := (hb1.block (w.heap.size + 1) (by rw [hS2.out]; omega)).trans r1.out
  have H1 : Hid (Below w.heap.size w w1) := below_then hBt.out hb1
  clear hr2 hb1 r0 r1 hS2 hBt hb
  generalize hS : w.heap.size = S at *
  obtain ⟨c10, c11, c12, c13, c14, c15, f10, f11, f12, f13, f14, f15, c00, c01, c02, c03, c04, c05, f00, f01, f02, f03, f04, f05⟩ := two_of t0 t1
  go_wp2_with (fail)
  have e0 := (heap_setCell_other w1 ⟨S + 1, 1, none⟩ S (.int .u64 n) (fun e => by have : S = S + 1 := e; omega)).trans t0
  have e1 := heap_setCell_same _ S 0 _ _ (.int .i64 1) e0
  have e2 := heap_setCell_same _ S 1 _ _ (.int .u64 n) e1
  have e3 := heap_setCell_same _ S 2 _ _ (.int .i64 0) e2
  have e4 := heap_setCell_same _ S 3 _ _ (.bool false) e3
  have e5 := heap_setCell_same _ S 4 _ _ (.string ⟨#[]⟩) e4
  have e6 := heap_setCell_same _ S 5 _ _ (.int .i64 most) e5
  refine ⟨rfl, _, results_cell3 rfl _ _ S _ _ _ _ rfl e6 Try.underlying37 rfl (by kernel_rfl), ?_⟩
  exact ⟨rfl, by subst hS; exact (below_set (below_set (below_set (below_set (below_set (below_set (below_set H1.out (by omega)) (by omega)) (by omega)) (by omega)) (by omega)) (by omega)) (by omega))⟩
set_option maxRecDepth 100000 in
set_option maxHeartbeats 4000000 in
theorem refread_2 (a : Option Addr) (cap : Nat) (bs : List Nat) (pos : Nat) (most : Int) (hpos : pos ≤ bs.length) (hsz : bs.length ≤ 1000) (hcap : bs.length ≤ cap) (hlt : ∀ x ∈ bs, x < 256) (n k : Nat) (hn : En.num (bs.drop pos) = some (n, k)) (w : World) (h : Bytes w a bs) :
    Calls Try.prog 39 #[.slice a bs.length cap, .int .i64 pos, .int .i64 2, .int .i64 most] w fun e w' => e = readE (⟨2, 0, unzig n, false, ByteArray.empty, most⟩, pos + k, 0) ∧ Below w.heap.size w w' := by
  have hr := refnumber_any a cap bs pos hpos hsz hcap hlt ((w.alloc (.cells #[.int .i64 0, .int .u64 0, .int .i64 0, .bool false, .string ⟨#[]⟩, .int .i64 0] 37)).alloc (.cells #[.int .i64 2, .int .u64 0, .int .i64 0, .bool false, .string ⟨#[]⟩, .int .i64 most] 37)) (Bytes.below h (below_two w _ _))
  rw [hn] at hr
  simp only [numV] at hr
  have r0 := hidIt ((row_under w (.cells #[.int .i64 0, .int .u64 0, .int .i64 0, .bool false, .string ⟨#[]⟩, .int .i64 0] 37) (.cells #[.int .i64 2, .int .u64 0, .int .i64 0, .bool false, .string ⟨#[]⟩, .int .i64 most] 37)).trans (heap_alloc_new w (.cells #[.int .i64 0, .int .u64 0, .int .i64 0, .bool false, .string ⟨#[]⟩, .int .i64 0] 37)))
  have r1 : Hid (((w.alloc (.cells #[.int .i64 0, .int .u64 0, .int .i64 0, .bool false, .string ⟨#[]⟩, .int .i64 0] 37)).alloc (.cells #[.int .i64 2, .int .u64 0, .int .i64 0, .bool false, .string ⟨#[]⟩, .int .i64 most] 37)).heap[w.heap.size + 1]? = some (.cells #[.int .i64 2, .int .u64 0, .int .i64 0, .bool false, .string ⟨#[]⟩, .int .i64 most] 37)) := by rw [← World.size_alloc w (.cells #[.int .i64 0, .int .u64 0, .int .i64 0, .bool false, .string ⟨#[]⟩, .int .i64 0] 37)]; exact heap_alloc_new _ _
  have hS2 : Hid (((w.alloc (.cells #[.int .i64 0, .int .u64 0, .int .i64 0, .bool false, .string ⟨#[]⟩, .int .i64 0] 37)).alloc (.cells #[.int .i64 2, .int .u64 0, .int .i64 0, .bool false, .string ⟨#[]⟩, .int .i64 most] 37)).heap.size = w.heap.size + 2) := by show _ = _; simp
  have hBt := hidIt (below_two w (.cells #[.int .i64 0, .int .u64 0, .int .i64 0, .bool false, .string ⟨#[]⟩, .int .i64 0] 37) (.cells #[.int .i64 2, .int .u64 0, .int .i64 0, .bool false, .string ⟨#[]⟩, .int .i64 most] 37))
  have hr2 := hidIt hr
  have hb := hidIt h
  clear hr h
  have hnb := En.enc_num (fun x hx => hlt x (List.mem_of_mem_drop hx)) hn
  go_enter Try.func39, Try.ntmps39
  go_wp2_with (fail)
  refine hr2.out.mono ?_
  rintro e w1 ⟨rfl, hb1⟩
  have t0 := (hb1.block w.heap.size (by rw [hS2.out]; omega)).trans r0.out
  have t1 := (hb1.block (w.heap.size + 1) (by rw [hS2.out]; omega)).trans r1.out
  have H1 : Hid (Below w.heap.size w w1) := below_then hBt.out hb1
  clear hr2 hb1 r0 r1 hS2 hBt hb
  generalize hS : w.heap.size = S at *
  obtain ⟨c10, c11, c12, c13, c14, c15, f10, f11, f12, f13, f14, f15, c00, c01, c02, c03, c04, c05, f00, f01, f02, f03, f04, f05⟩ := two_of t0 t1
  go_wp2_with (fail)
  refine (refUnzigzag_any n hnb.1 _).mono ?_
  rintro e w2 ⟨rfl, rfl⟩
  go_wp2_with (fail)
  have e0 := (heap_setCell_other w1 ⟨S + 1, 2, none⟩ S (.int .i64 (unzig n)) (fun e => by have : S = S + 1 := e; omega)).trans t0
  have e1 := heap_setCell_same _ S 0 _ _ (.int .i64 2) e0
  have e2 := heap_setCell_same _ S 1 _ _ (.int .u64 0) e1
  have e3 := heap_setCell_same _ S 2 _ _ (.int .i64 (unzig n)) e2
  have e4 := heap_setCell_same _ S 3 _ _ (.bool false) e3
  have e5 := heap_setCell_same _ S 4 _ _ (.string ⟨#[]⟩) e4
  have e6 := heap_setCell_same _ S 5 _ _ (.int .i64 most) e5
  refine ⟨rfl, _, results_cell3 rfl _ _ S _ _ _ _ rfl e6 Try.underlying37 rfl (by kernel_rfl), ?_⟩
  exact ⟨rfl, by subst hS; exact (below_set (below_set (below_set (below_set (below_set (below_set (below_set H1.out (by omega)) (by omega)) (by omega)) (by omega)) (by omega)) (by omega)) (by omega))⟩
set_option maxRecDepth 100000 in
set_option maxHeartbeats 4000000 in
theorem refread_big (a : Option Addr) (cap : Nat) (bs : List Nat) (pos : Nat) (kind : Int) (most : Int) (hm2 : most ≤ 9223372036854775807) (hpos : pos ≤ bs.length) (hsz : bs.length ≤ 1000) (hcap : bs.length ≤ cap) (hlt : ∀ x ∈ bs, x < 256) (k1 : ¬ kind = 1) (k2 : ¬ kind = 2) (k3 : ¬ kind = 3) (k6 : ¬ kind = 6) (n k : Nat) (hn : En.num (bs.drop pos) = some (n, k)) (hbig : max most 0 < (n : Int)) (w : World) (h : Bytes w a bs) :
    Calls Try.prog 39 #[.slice a bs.length cap, .int .i64 pos, .int .i64 kind, .int .i64 most] w fun e w' => e = readE (zeroV kind most, pos, 2) ∧ Below w.heap.size w w' := by
  have hr := refnumber_any a cap bs pos hpos hsz hcap hlt ((w.alloc (.cells #[.int .i64 0, .int .u64 0, .int .i64 0, .bool false, .string ⟨#[]⟩, .int .i64 0] 37)).alloc (.cells #[.int .i64 kind, .int .u64 0, .int .i64 0, .bool false, .string ⟨#[]⟩, .int .i64 most] 37)) (Bytes.below h (below_two w _ _))
  rw [hn] at hr
  simp only [numV] at hr
  have r0 := hidIt ((row_under w (.cells #[.int .i64 0, .int .u64 0, .int .i64 0, .bool false, .string ⟨#[]⟩, .int .i64 0] 37) (.cells #[.int .i64 kind, .int .u64 0, .int .i64 0, .bool false, .string ⟨#[]⟩, .int .i64 most] 37)).trans (heap_alloc_new w (.cells #[.int .i64 0, .int .u64 0, .int .i64 0, .bool false, .string ⟨#[]⟩, .int .i64 0] 37)))
  have r1 : Hid (((w.alloc (.cells #[.int .i64 0, .int .u64 0, .int .i64 0, .bool false, .string ⟨#[]⟩, .int .i64 0] 37)).alloc (.cells #[.int .i64 kind, .int .u64 0, .int .i64 0, .bool false, .string ⟨#[]⟩, .int .i64 most] 37)).heap[w.heap.size + 1]? = some (.cells #[.int .i64 kind, .int .u64 0, .int .i64 0, .bool false, .string ⟨#[]⟩, .int .i64 most] 37)) := by rw [← World.size_alloc w (.cells #[.int .i64 0, .int .u64 0, .int .i64 0, .bool false, .string ⟨#[]⟩, .int .i64 0] 37)]; exact heap_alloc_new _ _
  have hS2 : Hid (((w.alloc (.cells #[.int .i64 0, .int .u64 0, .int .i64 0, .bool false, .string ⟨#[]⟩, .int .i64 0] 37)).alloc (.cells #[.int .i64 kind, .int .u64 0, .int .i64 0, .bool false, .string ⟨#[]⟩, .int .i64 most] 37)).heap.size = w.heap.size + 2) := by show _ = _; simp
  have hBt := hidIt (below_two w (.cells #[.int .i64 0, .int .u64 0, .int .i64 0, .bool false, .string ⟨#[]⟩, .int .i64 0] 37) (.cells #[.int .i64 kind, .int .u64 0, .int .i64 0, .bool false, .string ⟨#[]⟩, .int .i64 most] 37))
  have hr2 := hidIt hr
  have hb := hidIt h
  clear hr h
  have hw : IntKind.u64.wrap (max most 0) = max most 0 := by rw [IntKind.wrap_u64]; omega
  have tb : (n : Int) > max most 0 := hbig
  go_enter Try.func39, Try.ntmps39
  go_wp2_with (fail)
  refine hr2.out.mono ?_
  rintro e w1 ⟨rfl, hb1⟩
  have t0 := (hb1.block w.heap.size (by rw [hS2.out]; omega)).trans r0.out
  have t1 := (hb1.block (w.heap.size + 1) (by rw [hS2.out]; omega)).trans r1.out
  have H1 : Hid (Below w.heap.size w w1) := below_then hBt.out hb1
  clear hr2 hb1 r0 r1 hS2 hBt hb
  generalize hS : w.heap.size = S at *
  obtain ⟨c10, c11, c12, c13, c14, c15, f10, f11, f12, f13, f14, f15, c00, c01, c02, c03, c04, c05, f00, f01, f02, f03, f04, f05⟩ := two_of t0 t1
  go_wp2_with (fail)
  have e0 := t0
  have e1 := heap_setCell_same _ S 0 _ _ (.int .i64 kind) e0
  have e2 := heap_setCell_same _ S 1 _ _ (.int .u64 0) e1
  have e3 := heap_setCell_same _ S 2 _ _ (.int .i64 0) e2
  have e4 := heap_setCell_same _ S 3 _ _ (.bool false) e3
  have e5 := heap_setCell_same _ S 4 _ _ (.string ⟨#[]⟩) e4
  have e6 := heap_setCell_same _ S 5 _ _ (.int .i64 most) e5
  refine ⟨rfl, _, results_cell3 rfl _ _ S _ _ _ _ rfl e6 Try.underlying37 rfl (by kernel_rfl), ?_⟩
  exact ⟨rfl, by subst hS; exact (below_set (below_set (below_set (below_set (below_set (below_set H1.out (by omega)) (by omega)) (by omega)) (by omega)) (by omega)) (by omega))⟩
set_option maxRecDepth 100000 in
set_option maxHeartbeats 4000000 in
theorem refread_7 (a : Option Addr) (cap : Nat) (bs : List Nat) (pos : Nat) (most : Int) (hm2 : most ≤ 9223372036854775807) (hpos : pos ≤ bs.length) (hsz : bs.length ≤ 1000) (hcap : bs.length ≤ cap) (hlt : ∀ x ∈ bs, x < 256) (n k : Nat) (hn : En.num (bs.drop pos) = some (n, k)) (hbig : ¬ max most 0 < (n : Int)) (w : World) (h : Bytes w a bs) :
    Calls Try.prog 39 #[.slice a bs.length cap, .int .i64 pos, .int .i64 7, .int .i64 most] w fun e w' => e = readE (⟨7, 0, n, false, ByteArray.empty, most⟩, pos + k, 0) ∧ Below w.heap.size w w' := by
  have hr := refnumber_any a cap bs pos hpos hsz hcap hlt ((w.alloc (.cells #[.int .i64 0, .int .u64 0, .int .i64 0, .bool false, .string ⟨#[]⟩, .int .i64 0] 37)).alloc (.cells #[.int .i64 7, .int .u64 0, .int .i64 0, .bool false, .string ⟨#[]⟩, .int .i64 most] 37)) (Bytes.below h (below_two w _ _))
  rw [hn] at hr
  simp only [numV] at hr
  have r0 := hidIt ((row_under w (.cells #[.int .i64 0, .int .u64 0, .int .i64 0, .bool false, .string ⟨#[]⟩, .int .i64 0] 37) (.cells #[.int .i64 7, .int .u64 0, .int .i64 0, .bool false, .string ⟨#[]⟩, .int .i64 most] 37)).trans (heap_alloc_new w (.cells #[.int .i64 0, .int .u64 0, .int .i64 0, .bool false, .string ⟨#[]⟩, .int .i64 0] 37)))
  have r1 : Hid (((w.alloc (.cells #[.int .i64 0, .int .u64 0, .int .i64 0, .bool false, .string ⟨#[]⟩, .int .i64 0] 37)).alloc (.cells #[.int .i64 7, .int .u64 0, .int .i64 0, .bool false, .string ⟨#[]⟩, .int .i64 most] 37)).heap[w.heap.size + 1]? = some (.cells #[.int .i64 7, .int .u64 0, .int .i64 0, .bool false, .string ⟨#[]⟩, .int .i64 most] 37)) := by rw [← World.size_alloc w (.cells #[.int .i64 0, .int .u64 0, .int .i64 0, .bool false, .string ⟨#[]⟩, .int .i64 0] 37)]; exact heap_alloc_new _ _
  have hS2 : Hid (((w.alloc (.cells #[.int .i64 0, .int .u64 0, .int .i64 0, .bool false, .string ⟨#[]⟩, .int .i64 0] 37)).alloc (.cells #[.int .i64 7, .int .u64 0, .int .i64 0, .bool false, .string ⟨#[]⟩, .int .i64 most] 37)).heap.size = w.heap.size + 2) := by show _ = _; simp
  have hBt := hidIt (below_two w (.cells #[.int .i64 0, .int .u64 0, .int .i64 0, .bool false, .string ⟨#[]⟩, .int .i64 0] 37) (.cells #[.int .i64 7, .int .u64 0, .int .i64 0, .bool false, .string ⟨#[]⟩, .int .i64 most] 37))
  have hr2 := hidIt hr
  have hb := hidIt h
  clear hr h
  have hw : IntKind.u64.wrap (max most 0) = max most 0 := by rw [IntKind.wrap_u64]; omega
  have tb : ¬ (n : Int) > max most 0 := by omega
  have hw2 : IntKind.i64.wrap (n : Int) = (n : Int) := by rw [IntKind.wrap_i64]; omega
  go_enter Try.func39, Try.ntmps39
  go_wp2_with (fail)
  refine hr2.out.mono ?_
  rintro e w1 ⟨rfl, hb1⟩
  have t0 := (hb1.block w.heap.size (by rw [hS2.out]; omega)).trans r0.out
  have t1 := (hb1.block (w.heap.size + 1) (by rw [hS2.out]; omega)).trans r1.out
  have H1 : Hid (Below w.heap.size w w1) := below_then hBt.out hb1
  clear hr2 hb1 r0 r1 hS2 hBt hb
  generalize hS : w.heap.size = S at *
  obtain ⟨c10, c11, c12, c13, c14, c15, f10, f11, f12, f13, f14, f15, c00, c01, c02, c03, c04, c05, f00, f01, f02, f03, f04, f05⟩ := two_of t0 t1
  go_wp2_with (fail)
  have e0 := (heap_setCell_other w1 ⟨S + 1, 2, none⟩ S (.int .i64 n) (fun e => by have : S = S + 1 := e; omega)).trans t0
  have e1 := heap_setCell_same _ S 0 _ _ (.int .i64 7) e0
  have e2 := heap_setCell_same _ S 1 _ _ (.int .u64 0) e1
  have e3 := heap_setCell_same _ S 2 _ _ (.int .i64 n) e2
  have e4 := heap_setCell_same _ S 3 _ _ (.bool false) e3
  have e5 := heap_setCell_same _ S 4 _ _ (.string ⟨#[]⟩) e4
  have e6 := heap_setCell_same _ S 5 _ _ (.int .i64 most) e5
  refine ⟨rfl, _, results_cell3 rfl _ _ S _ _ _ _ rfl e6 Try.underlying37 rfl (by kernel_rfl), ?_⟩
  exact ⟨rfl, by subst hS; exact (below_set (below_set (below_set (below_set (below_set (below_set (below_set H1.out (by omega)) (by omega)) (by omega)) (by omega)) (by omega)) (by omega)) (by omega))⟩
set_option maxRecDepth 100000 in
set_option maxHeartbeats 4000000 in
theorem refread_short (a : Option Addr) (cap : Nat) (bs : List Nat) (pos : Nat) (kind : Int) (most : Int) (hm2 : most ≤ 9223372036854775807) (hpos : pos ≤ bs.length) (hsz : bs.length ≤ 1000) (hcap : bs.length ≤ cap) (hlt : ∀ x ∈ bs, x < 256) (k1 : ¬ kind = 1) (k2 : ¬ kind = 2) (k3 : ¬ kind = 3) (k6 : ¬ kind = 6) (k7 : ¬ kind = 7) (n k : Nat) (hn : En.num (bs.drop pos) = some (n, k)) (hbig : ¬ max most 0 < (n : Int)) (hsh : bs.length - (pos + k) < n) (w : World) (h : Bytes w a bs) :
    Calls Try.prog 39 #[.slice a bs.length cap, .int .i64 pos, .int .i64 kind, .int .i64 most] w fun e w' => e = readE (zeroV kind most, pos, 3) ∧ Below w.heap.size w w' := by
  have hr := refnumber_any a cap bs pos hpos hsz hcap hlt ((w.alloc (.cells #[.int .i64 0, .int .u64 0, .int .i64 0, .bool false, .string ⟨#[]⟩, .int .i64 0] 37)).alloc (.cells #[.int .i64 kind, .int .u64 0, .int .i64 0, .bool false, .string ⟨#[]⟩, .int .i64 most] 37)) (Bytes.below h (below_two w _ _))
  rw [hn] at hr
  simp only [numV] at hr
  have r0 := hidIt ((row_under w (.cells #[.int .i64 0, .int .u64 0, .int .i64 0, .bool false, .string ⟨#[]⟩, .int .i64 0] 37) (.cells #[.int .i64 kind, .int .u64 0, .int .i64 0, .bool false, .string ⟨#[]⟩, .int .i64 most] 37)).trans (heap_alloc_new w (.cells #[.int .i64 0, .int .u64 0, .int .i64 0, .bool false, .string ⟨#[]⟩, .int .i64 0] 37)))
  have r1 : Hid (((w.alloc (.cells #[.int .i64 0, .int .u64 0, .int .i64 0, .bool false, .string ⟨#[]⟩, .int .i64 0] 37)).alloc (.cells #[.int .i64 kind, .int .u64 0, .int .i64 0, .bool false, .string ⟨#[]⟩, .int .i64 most] 37)).heap[w.heap.size + 1]? = some (.cells #[.int .i64 kind, .int .u64 0, .int .i64 0, .bool false, .string ⟨#[]⟩, .int .i64 most] 37)) := by rw [← World.size_alloc w (.cells #[.int .i64 0, .int .u64 0, .int .i64 0, .bool false, .string ⟨#[]⟩, .int .i64 0] 37)]; exact heap_alloc_new _ _
  have hS2 : Hid (((w.alloc (.cells #[.int .i64 0, .int .u64 0, .int .i64 0, .bool false, .string ⟨#[]⟩, .int .i64 0] 37)).alloc (.cells #[.int .i64 kind, .int .u64 0, .int .i64 0, .bool false, .string ⟨#[]⟩, .int .i64 most] 37)).heap.size = w.heap.size + 2) := by show _ = _; simp
  have hBt := hidIt (below_two w (.cells #[.int .i64 0, .int .u64 0, .int .i64 0, .bool false, .string ⟨#[]⟩, .int .i64 0] 37) (.cells #[.int .i64 kind, .int .u64 0, .int .i64 0, .bool false, .string ⟨#[]⟩, .int .i64 most] 37))
  have hr2 := hidIt hr
  have hb := hidIt h
  clear hr h
  have hbd := En.num_bd hn
  rw [List.length_drop] at hbd
  have hw : IntKind.u64.wrap (max most 0) = max most 0 := by rw [IntKind.wrap_u64]; omega
  have tb : ¬ (n : Int) > max most 0 := by omega
  have hw3 : IntKind.u64.wrap ((bs.length : Int) - ((pos : Int) + (k : Int))) = (bs.length : Int) - ((pos : Int) + (k : Int)) := by rw [IntKind.wrap_u64]; omega
  have ts : (n : Int) > (bs.length : Int) - ((pos : Int) + (k : Int)) := by omega
  go_enter Try.func39, Try.ntmps39
  go_wp2_with (fail)
  refine hr2.out.mono ?_
  rintro e w1 ⟨rfl, hb1⟩
  have t0 := (hb1.block w.heap.size (by rw [hS2.out]; omega)).trans r0.out
  have t1 := (hb1.block (w.heap.size + 1) (by rw [hS2.out]; omega)).trans r1.out
  have H1 : Hid (Below w.heap.size w w1) := below_then hBt.out hb1
  clear hr2 hb1 r0 r1 hS2 hBt hb
  generalize hS : w.heap.size = S at *
  obtain ⟨c10, c11, c12, c13, c14, c15, f10, f11, f12, f13, f14, f15, c00, c01, c02, c03, c04, c05, f00, f01, f02, f03, f04, f05⟩ := two_of t0 t1
  go_wp2_with (fail)
  have e0 := t0
  have e1 := heap_setCell_same _ S 0 _ _ (.int .i64 kind) e0
  have e2 := heap_setCell_same _ S 1 _ _ (.int .u64 0) e1
  have e3 := heap_setCell_same _ S 2 _ _ (.int .i64 0) e2
  have e4 := heap_setCell_same _ S 3 _ _ (.bool false) e3
  have e5 := heap_setCell_same _ S 4 _ _ (.string ⟨#[]⟩) e4
  have e6 := heap_setCell_same _ S 5 _ _ (.int .i64 most) e5
  refine ⟨rfl, _, results_cell3 rfl _ _ S _ _ _ _ rfl e6 Try.underlying37 rfl (by kernel_rfl), ?_⟩
  exact ⟨rfl, by subst hS; exact (below_set (below_set (below_set (below_set (below_set (below_set H1.out (by omega)) (by omega)) (by omega)) (by omega)) (by omega)) (by omega))⟩
set_option maxRecDepth 100000 in
set_option maxHeartbeats 4000000 in
theorem refread_45 (a : Option Addr) (cap : Nat) (bs : List Nat) (pos : Nat) (kind : Int) (most : Int) (hm2 : most ≤ 9223372036854775807) (hpos : pos ≤ bs.length) (hsz : bs.length ≤ 1000) (hcap : bs.length ≤ cap) (hlt : ∀ x ∈ bs, x < 256) (k1 : ¬ kind = 1) (k2 : ¬ kind = 2) (k3 : ¬ kind = 3) (k6 : ¬ kind = 6) (k7 : ¬ kind = 7) (n k : Nat) (hn : En.num (bs.drop pos) = some (n, k)) (hbig : ¬ max most 0 < (n : Int)) (hsh : ¬ bs.length - (pos + k) < n) (hcp : ¬ cap = pos + k) (w : World) (h : Bytes w a bs) :
    Calls Try.prog 39 #[.slice a bs.length cap, .int .i64 pos, .int .i64 kind, .int .i64 most] w fun e w' => e = readE (⟨kind, 0, 0, false, str ((bs.drop (pos + k)).take n), most⟩, pos + k + n, 0) ∧ Below w.heap.size w w' := by
  have hr := refnumber_any a cap bs pos hpos hsz hcap hlt ((w.alloc (.cells #[.int .i64 0, .int .u64 0, .int .i64 0, .bool false, .string ⟨#[]⟩, .int .i64 0] 37)).alloc (.cells #[.int .i64 kind, .int .u64 0, .int .i64 0, .bool false, .string ⟨#[]⟩, .int .i64 most] 37)) (Bytes.below h (below_two w _ _))
  rw [hn] at hr
  simp only [numV] at hr
  have r0 := hidIt ((row_under w (.cells #[.int .i64 0, .int .u64 0, .int .i64 0, .bool false, .string ⟨#[]⟩, .int .i64 0] 37) (.cells #[.int .i64 kind, .int .u64 0, .int .i64 0, .bool false, .string ⟨#[]⟩, .int .i64 most] 37)).trans (heap_alloc_new w (.cells #[.int .i64 0, .int .u64 0, .int .i64 0, .bool false, .string ⟨#[]⟩, .int .i64 0] 37)))
  have r1 : Hid (((w.alloc (.cells #[.int .i64 0, .int .u64 0, .int .i64 0, .bool false, .string ⟨#[]⟩, .int .i64 0] 37)).alloc (.cells #[.int .i64 kind, .int .u64 0, .int .i64 0, .bool false, .string ⟨#[]⟩, .int .i64 most] 37)).heap[w.heap.size + 1]? = some (.cells #[.int .i64 kind, .int .u64 0, .int .i64 0, .bool false, .string ⟨#[]⟩, .int .i64 most] 37)) := by rw [← World.size_alloc w (.cells #[.int .i64 0, .int .u64 0, .int .i64 0, .bool false, .string ⟨#[]⟩, .int .i64 0] 37)]; exact heap_alloc_new _ _
  have hS2 : Hid (((w.alloc (.cells #[.int .i64 0, .int .u64 0, .int .i64 0, .bool false, .string ⟨#[]⟩, .int .i64 0] 37)).alloc (.cells #[.int .i64 kind, .int .u64 0, .int .i64 0, .bool false, .string ⟨#[]⟩, .int .i64 most] 37)).heap.size = w.heap.size + 2) := by show _ = _; simp
  have hBt := hidIt (below_two w (.cells #[.int .i64 0, .int .u64 0, .int .i64 0, .bool false, .string ⟨#[]⟩, .int .i64 0] 37) (.cells #[.int .i64 kind, .int .u64 0, .int .i64 0, .bool false, .string ⟨#[]⟩, .int .i64 most] 37))
  have hr2 := hidIt hr
  have hb := hidIt h
  clear hr h
  have hbd := En.num_bd hn
  rw [List.length_drop] at hbd
  have hw : IntKind.u64.wrap (max most 0) = max most 0 := by rw [IntKind.wrap_u64]; omega
  have tb : ¬ (n : Int) > max most 0 := by omega
  have hw3 : IntKind.u64.wrap ((bs.length : Int) - ((pos : Int) + (k : Int))) = (bs.length : Int) - ((pos : Int) + (k : Int)) := by rw [IntKind.wrap_u64]; omega
  have ts : ¬ (n : Int) > (bs.length : Int) - ((pos : Int) + (k : Int)) := by omega
  have hw2 : IntKind.i64.wrap (n : Int) = (n : Int) := by rw [IntKind.wrap_i64]; omega
  go_enter Try.func39, Try.ntmps39
  go_wp2_with (fail)
  refine hr2.out.mono ?_
  rintro e w1 ⟨rfl, hb1⟩
  have t0 := (hb1.block w.heap.size (by rw [hS2.out]; omega)).trans r0.out
  have t1 := (hb1.block (w.heap.size + 1) (by rw [hS2.out]; omega)).trans r1.out
  have H1 : Hid (Below w.heap.size w w1) := below_then hBt.out hb1
  have B1 := hidIt (Bytes.below hb.out H1.out)
  clear hr2 hb1 r0 r1 hS2 hBt hb
  generalize hS : w.heap.size = S at *
  obtain ⟨c10, c11, c12, c13, c14, c15, f10, f11, f12, f13, f14, f15, c00, c01, c02, c03, c04, c05, f00, f01, f02, f03, f04, f05⟩ := two_of t0 t1
  obtain ⟨b, off, rfl, -⟩ := B1.out 0 (by omega)
  have hq := conv_str w1 (some ⟨b, off + (pos + k), none⟩) n (cap - (pos + k)) _ (by rw [List.length_take, List.length_drop]; omega) (bytes_sub B1.out (p := pos + k) (n := n) (by omega))
  generalize hsv : str ((bs.drop (pos + k)).take n) = sv at *
  have hsv2 := hidIt hsv
  clear hsv B1
  go_wp2_with (fail)
  have e0 := (heap_setCell_other w1 ⟨S + 1, 4, none⟩ S (.string sv) (fun e => by have : S = S + 1 := e; omega)).trans t0
  have e1 := heap_setCell_same _ S 0 _ _ (.int .i64 kind) e0
  have e2 := heap_setCell_same _ S 1 _ _ (.int .u64 0) e1
  have e3 := heap_setCell_same _ S 2 _ _ (.int .i64 0) e2
  have e4 := heap_setCell_same _ S 3 _ _ (.bool false) e3
  have e5 := heap_setCell_same _ S 4 _ _ (.string sv) e4
  have e6 := heap_setCell_same _ S 5 _ _ (.int .i64 most) e5
  refine ⟨rfl, _, results_cell3 rfl _ _ S _ _ _ _ rfl e6 Try.underlying37 rfl (by kernel_rfl), ?_⟩
  exact ⟨by rw [hsv2.out]; rfl, by subst hS; exact (below_set (below_set (below_set (below_set (below_set (below_set (below_set H1.out (by omega)) (by omega)) (by omega)) (by omega)) (by omega)) (by omega)) (by omega))⟩
set_option maxRecDepth 100000 in
set_option maxHeartbeats 4000000 in
theorem refread_45z (a : Option Addr) (cap : Nat) (bs : List Nat) (pos : Nat) (kind : Int) (most : Int) (hm2 : most ≤ 9223372036854775807) (hpos : pos ≤ bs.length) (hsz : bs.length ≤ 1000) (hcap : bs.length ≤ cap) (hlt : ∀ x ∈ bs, x < 256) (k1 : ¬ kind = 1) (k2 : ¬ kind = 2) (k3 : ¬ kind = 3) (k6 : ¬ kind = 6) (k7 : ¬ kind = 7) (n k : Nat) (hn : En.num (bs.drop pos) = some (n, k)) (hbig : ¬ max most 0 < (n : Int)) (hsh : ¬ bs.length - (pos + k) < n) (hcp : cap = pos + k) (w : World) (h : Bytes w a bs) :
    Calls Try.prog 39 #[.slice a bs.length cap, .int .i64 pos, .int .i64 kind, .int .i64 most] w fun e w' => e = readE (⟨kind, 0, 0, false, str ((bs.drop (pos + k)).take n), most⟩, pos + k + n, 0) ∧ Below w.heap.size w w' := by
  have hr := refnumber_any a cap bs pos hpos hsz hcap hlt ((w.alloc (.cells #[.int .i64 0, .int .u64 0, .int .i64 0, .bool false, .string ⟨#[]⟩, .int .i64 0] 37)).alloc (.cells #[.int .i64 kind, .int .u64 0, .int .i64 0, .bool false, .string ⟨#[]⟩, .int .i64 most] 37)) (Bytes.below h (below_two w _ _))
  rw [hn] at hr
  simp only [numV] at hr
  have r0 := hidIt ((row_under w (.cells #[.int .i64 0, .int .u64 0, .int .i64 0, .bool false, .string ⟨#[]⟩, .int .i64 0] 37) (.cells #[.int .i64 kind, .int .u64 0, .int .i64 0, .bool false, .string ⟨#[]⟩, .int .i64 most] 37)).trans (heap_alloc_new w (.cells #[.int .i64 0, .int .u64 0, .int .i64 0, .bool false, .string ⟨#[]⟩, .int .i64 0] 37)))
  have r1 : Hid (((w.alloc (.cells #[.int .i64 0, .int .u64 0, .int .i64 0, .bool false, .string ⟨#[]⟩, .int .i64 0] 37)).alloc (.cells #[.int .i64 kind, .int .u64 0, .int .i64 0, .bool false, .string ⟨#[]⟩, .int .i64 most] 37)).heap[w.heap.size + 1]? = some (.cells #[.int .i64 kind, .int .u64 0, .int .i64 0, .bool false, .string ⟨#[]⟩, .int .i64 most] 37)) := by rw [← World.size_alloc w (.cells #[.int .i64 0, .int .u64 0, .int .i64 0, .bool false, .string ⟨#[]⟩, .int .i64 0] 37)]; exact heap_alloc_new _ _
  have hS2 : Hid (((w.alloc (.cells #[.int .i64 0, .int .u64 0, .int .i64 0, .bool false, .string ⟨#[]⟩, .int .i64 0] 37)).alloc (.cells #[.int .i64 kind, .int .u64 0, .int .i64 0, .bool false, .string ⟨#[]⟩, .int .i64 most] 37)).heap.size = w.heap.size + 2) := by show _ = _; simp
  have hBt := hidIt (below_two w (.cells #[.int .i64 0, .int .u64 0, .int .i64 0, .bool false, .string ⟨#[]⟩, .int .i64 0] 37) (.cells #[.int .i64 kind, .int .u64 0, .int .i64 0, .bool false, .string ⟨#[]⟩, .int .i64 most] 37))
  have hr2 := hidIt hr
  have hb := hidIt h
  clear hr h
  have hbd := En.num_bd hn
  rw [List.length_drop] at hbd
  obtain rfl : n = 0 := by omega
  subst hcp
  have hw : IntKind.u64.wrap (max most 0) = max most 0 := by rw [IntKind.wrap_u64]; omega
  have tb : ¬ (0 : Int) > max most 0 := by omega
  have hw3 : IntKind.u64.wrap ((bs.length : Int) - ((pos : Int) + (k : Int))) = (bs.length : Int) - ((pos : Int) + (k : Int)) := by rw [IntKind.wrap_u64]; omega
  have ts : ¬ (0 : Int) > (bs.length : Int) - ((pos : Int) + (k : Int)) := by omega
  have hw2 : IntKind.i64.wrap 0 = 0 := by rw [IntKind.wrap_i64]; omega
  go_enter Try.func39, Try.ntmps39
  go_wp2_with (fail)
  refine hr2.out.mono ?_
  rintro e w1 ⟨rfl, hb1⟩
  have t0 := (hb1.block w.heap.size (by rw [hS2.out]; omega)).trans r0.out
  have t1 := (hb1.block (w.heap.size + 1) (by rw [hS2.out]; omega)).trans r1.out
  have H1 : Hid (Below w.heap.size w w1) := below_then hBt.out hb1
  have B1 := hidIt (Bytes.below hb.out H1.out)
  clear hr2 hb1 r0 r1 hS2 hBt hb
  generalize hS : w.heap.size = S at *
  obtain ⟨c10, c11, c12, c13, c14, c15, f10, f11, f12, f13, f14, f15, c00, c01, c02, c03, c04, c05, f00, f01, f02, f03, f04, f05⟩ := two_of t0 t1
  obtain ⟨b, off, rfl, -⟩ := B1.out 0 (by omega)
  have hq := conv_str w1 (some ⟨b, off, none⟩) 0 0 ((bs.drop (pos + k)).take 0) rfl (fun i hi => by simp at hi)
  generalize hsv : str ((bs.drop (pos + k)).take 0) = sv at *
  have hsv2 := hidIt hsv
  clear hsv B1
  go_wp2_with (fail)
  have e0 := (heap_setCell_other w1 ⟨S + 1, 4, none⟩ S (.string sv) (fun e => by have : S = S + 1 := e; omega)).trans t0
  have e1 := heap_setCell_same _ S 0 _ _ (.int .i64 kind) e0
  have e2 := heap_setCell_same _ S 1 _ _ (.int .u64 0) e1
  have e3 := heap_setCell_same _ S 2 _ _ (.int .i64 0) e2
  have e4 := heap_setCell_same _ S 3 _ _ (.bool false) e3
  have e5 := heap_setCell_same _ S 4 _ _ (.string sv) e4
  have e6 := heap_setCell_same _ S 5 _ _ (.int .i64 most) e5
  refine ⟨rfl, _, results_cell3 rfl _ _ S _ _ _ _ rfl e6 Try.underlying37 rfl (by kernel_rfl), ?_⟩
  exact ⟨by rw [hsv2.out]; rfl, by subst hS; exact (below_set (below_set (below_set (below_set (below_set (below_set (below_set H1.out (by omega)) (by omega)) (by omega)) (by omega)) (by omega)) (by omega)) (by omega))⟩
end Go.Proofs.Ytfdbdhknamkipaa
