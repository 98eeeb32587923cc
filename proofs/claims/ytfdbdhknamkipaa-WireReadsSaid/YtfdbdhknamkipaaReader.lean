import Derived.Test.YtfdbdhknamkipaaWriter
namespace Go.Proofs.Ytfdbdhknamkipaa
open Go.RowKit
theorem RD.lt {w : World} {R : Nat} {a : Option Addr} {cap : Nat} {bs : List Nat} {pos last err : Nat} (h : RD w R a cap bs pos last err) : R < w.heap.size := (Array.getElem?_eq_some_iff.1 h.row).1
theorem RD.c0 {w : World} {R : Nat} {a : Option Addr} {cap : Nat} {bs : List Nat} {pos last err : Nat} (h : RD w R a cap bs pos last err) : w.cell? ⟨R, 0, none⟩ = some (.slice a bs.length cap) := by rw [cell_of_row w R 0 _ _ _ h.row]; rfl
theorem RD.c1 {w : World} {R : Nat} {a : Option Addr} {cap : Nat} {bs : List Nat} {pos last err : Nat} (h : RD w R a cap bs pos last err) : w.cell? ⟨R, 1, none⟩ = some (.int .i64 pos) := by rw [cell_of_row w R 1 _ _ _ h.row]; rfl
theorem RD.c2 {w : World} {R : Nat} {a : Option Addr} {cap : Nat} {bs : List Nat} {pos last err : Nat} (h : RD w R a cap bs pos last err) : w.cell? ⟨R, 2, none⟩ = some (.int .i64 last) := by rw [cell_of_row w R 2 _ _ _ h.row]; rfl
theorem RD.c3 {w : World} {R : Nat} {a : Option Addr} {cap : Nat} {bs : List Nat} {pos last err : Nat} (h : RD w R a cap bs pos last err) : w.cell? ⟨R, 3, none⟩ = some (.int .i64 err) := by rw [cell_of_row w R 3 _ _ _ h.row]; rfl
theorem RD.fz {w : World} {R : Nat} {a : Option Addr} {cap : Nat} {bs : List Nat} {pos last err : Nat} (h : RD w R a cap bs pos last err) (i : Nat) : w.frozen? ⟨R, i, none⟩ = false := frozen_of_row w R i _ _ h.row
theorem RD.drewN {w : World} {R : Nat} {a : Option Addr} {cap : Nat} {bs : List Nat} {pos last err m : Nat} (h : RD w R a cap bs pos last err) : RD (w.drewN m) R a cap bs pos last err :=
  ⟨h.row, h.bytes, h.ne, h.le, h.lastle, h.capge, h.capm⟩
/-- only block R has been written -/
theorem g_refl (w : World) (r : Option Nat) : w.grownBy w r := ⟨rfl, rfl, rfl, Nat.le_refl _, fun _ _ _ => rfl⟩
theorem g_trans {a b c : World} {r : Option Nat} (h : a.grownBy b r) (k : b.grownBy c r) : a.grownBy c r :=
  ⟨k.os.trans h.os, k.tape.trans h.tape, k.output.trans h.output, Nat.le_trans h.size k.size, fun i hi hr => (k.block i (Nat.lt_of_lt_of_le hi h.size) hr).trans (h.block i hi hr)⟩
theorem g_drewN {a b : World} {r : Option Nat} (h : a.grownBy b r) (m : Nat) : a.grownBy (b.drewN m) r := ⟨h.os, h.tape, h.output, h.size, h.block⟩
theorem g_set {a b : World} {R i : Nat} {v : Value} (h : a.grownBy b (some R)) : a.grownBy (b.setCell ⟨R, i, none⟩ v) (some R) :=
  ⟨h.os, h.tape, h.output, by simpa using h.size, fun k hk hr => (heap_setCell_other b ⟨R, i, none⟩ k v (fun e => hr (by rw [e]))).trans (h.block k hk hr)⟩
theorem g_alloc {a b : World} {r : Option Nat} (h : a.grownBy b r) (o : Obj) : a.grownBy (b.alloc o) r :=
  ⟨h.os, h.tape, h.output, by have := h.size; simp; omega, fun k hk hr => (Below.heap_alloc b o k (Nat.lt_of_lt_of_le hk h.size)).trans (h.block k hk hr)⟩
theorem g_below {a b : World} {r : Option Nat} (h : Below a.heap.size a b) : a.grownBy b r := ⟨h.os, h.tape, h.output, h.size, fun k hk _ => h.block k hk⟩
theorem below_g {a b : World} {R B : Nat} (h : a.grownBy b (some R)) (hB : B ≤ R) (hs : R < a.heap.size) : Below B a b := ⟨h.os, h.tape, h.output, h.size, fun k hk => h.block k (by omega) (fun e => by cases e; omega)⟩
theorem Bytes.g {w wr : World} {a : Option Addr} {bs : List Nat} {R : Nat} (h : Bytes w a bs) (hg : w.grownBy wr (some R)) (hne : ∀ x, a = some x → x.block ≠ R) : Bytes wr a bs := by
  intro i hi
  obtain ⟨b, off, h2, h3⟩ := h i hi
  exact ⟨b, off, h2, hg.cell h3 (fun e => by cases e; exact hne _ h2 rfl)⟩
theorem left_any (R : Nat) (a : Option Addr) (cap : Nat) (bs : List Nat) (pos last err : Nat) (w : World) (h : RD w R a cap bs pos last err) :
    Calls Try.prog 18 #[.pointer (some ⟨R, 0, none⟩)] w fun e w' => e = .returned (.int .i64 ((bs.length - pos : Nat) : Int)) ∧ ∃ m, w' = w.drewN m := by
  have c0 := h.c0
  have c1 := h.c1
  have hle := h.le
  have hm1 := h.capge
  have hm2 := h.capm
  unfold maxLen at hm2
  go_enter Try.func18, Try.ntmps18
  go_wp2_with (fail)
  go_quiet (fail)
  go_wp2
  go_ret
  exact ⟨ret_int (by omega), _, rfl⟩
theorem RD.setPos {w : World} {R : Nat} {a : Option Addr} {cap : Nat} {bs : List Nat} {pos last err : Nat} (h : RD w R a cap bs pos last err) (p : Nat) {v : Value} (hv : v = .int .i64 p) (hp : p ≤ bs.length) : RD (w.setCell ⟨R, 1, none⟩ v) R a cap bs p last err := by
  subst hv
  exact ⟨by rw [heap_setCell_same w R 1 _ _ _ h.row]; rfl, h.bytes.g (g_set (g_refl _ _)) h.ne, h.ne, hp, h.lastle, h.capge, h.capm⟩
theorem RD.setLast {w : World} {R : Nat} {a : Option Addr} {cap : Nat} {bs : List Nat} {pos last err : Nat} (h : RD w R a cap bs pos last err) (p : Nat) {v : Value} (hv : v = .int .i64 p) (hp : p ≤ bs.length) : RD (w.setCell ⟨R, 2, none⟩ v) R a cap bs pos p err := by
  subst hv
  exact ⟨by rw [heap_setCell_same w R 2 _ _ _ h.row]; rfl, h.bytes.g (g_set (g_refl _ _)) h.ne, h.ne, h.le, hp, h.capge, h.capm⟩
theorem RD.setErr {w : World} {R : Nat} {a : Option Addr} {cap : Nat} {bs : List Nat} {pos last err : Nat} (h : RD w R a cap bs pos last err) (p : Nat) {v : Value} (hv : v = .int .i64 p) : RD (w.setCell ⟨R, 3, none⟩ v) R a cap bs pos last p := by
  subst hv
  exact ⟨by rw [heap_setCell_same w R 3 _ _ _ h.row]; rfl, h.bytes.g (g_set (g_refl _ _)) h.ne, h.ne, h.le, h.lastle, h.capge, h.capm⟩
theorem next_short (R : Nat) (a : Option Addr) (cap : Nat) (bs : List Nat) (pos last err size : Nat) (w : World) (h : RD w R a cap bs pos last err) (hs : bs.length - pos < size) :
    Calls Try.prog 58 #[.pointer (some ⟨R, 0, none⟩), .int .i64 size] w fun e w' => e = .returned (.tuple #[.slice none 0 0, .int .i64 3]) ∧ ∃ m, w' = w.drewN m := by
  have hz : ((bs.length - pos : Nat) : Int) < (size : Int) := by omega
  go_enter Try.func58, Try.ntmps58
  go_wp2_with (fail)
  refine (left_any R a cap bs pos last err _ h).mono ?_
  rintro e w1 ⟨rfl, m, rfl⟩
  go_wp2_with (fail)
  go_ret2
  exact ⟨rfl, _, rfl⟩
theorem Bytes.drewN {w : World} {a : Option Addr} {bs : List Nat} (h : Bytes w a bs) (m : Nat) : Bytes (w.drewN m) a bs := h
theorem add_block (x : Addr) (n : Nat) : (x.add n).block = x.block := by unfold Addr.add; split <;> rfl
theorem sub_bytes {w : World} {a : Option Addr} {bs : List Nat} (h : Bytes w a bs) (pos size : Nat) : Bytes w (a.map fun x => x.add pos) ((bs.drop pos).take size) := by
  intro i hi
  have hl : i < size ∧ pos + i < bs.length := by simp at hi; omega
  obtain ⟨b, off, rfl, h3⟩ := h (pos + i) hl.2
  refine ⟨b, off + pos, ?_, ?_⟩
  · have hadd : (⟨b, off, none⟩ : Addr).add pos = ⟨b, off + pos, none⟩ := by unfold Addr.add; split <;> simp_all
    simp [hadd]
  · rw [Nat.add_assoc, h3]
    simp [List.getD, hl.1]
theorem next_ok (R : Nat) (a : Option Addr) (cap : Nat) (bs : List Nat) (pos last err size : Nat) (w : World) (h : RD w R a cap bs pos last err) (hs : size ≤ bs.length - pos) :
    Calls Try.prog 58 #[.pointer (some ⟨R, 0, none⟩), .int .i64 size] w fun e w' => ∃ a' c', e = .returned (.tuple #[.slice a' size c', .int .i64 0]) ∧ Bytes w' a' ((bs.drop pos).take size) ∧ RD w' R a cap bs (pos + size) last err ∧ w.grownBy w' (some R) := by
  have hle := h.le
  have hm1 := h.capge
  have hm2 := h.capm
  unfold maxLen at hm2
  have hz : ¬ ((bs.length - pos : Nat) : Int) < (size : Int) := by omega
  go_enter Try.func58, Try.ntmps58
  go_wp2_with (fail)
  refine (left_any R a cap bs pos last err _ h).mono ?_
  rintro e w1 ⟨rfl, m, rfl⟩
  have h1 := h.drewN (m := m)
  have d0 := h1.c0
  have d1 := h1.c1
  have d2 := h1.fz 1
  go_wp2_with (fail)
  have hR := h1.setPos (pos + size) (v := .int .i64 ((pos : Int) + (size : Int))) (by simp) (by omega)
  have hG : w.grownBy ((w.drewN m).setCell ⟨R, 1, none⟩ (.int .i64 ((pos : Int) + (size : Int)))) (some R) := g_set (g_drewN (g_refl _ _) _)
  generalize (w.drewN m).setCell ⟨R, 1, none⟩ (.int .i64 ((pos : Int) + (size : Int))) = W at *
  clear d0 d1 d2 h1
  have e0 := hR.c0
  have e1 := hR.c1
  have hb1 : ((pos + size : Nat) : Int) ≤ (cap : Int) := by omega
  have hb2 : (pos : Int) ≤ ((pos + size : Nat) : Int) := by omega
  go_quiet (fail)
  go_wp2
  · have hcp : cap = pos := by assumption
    subst hcp
    obtain rfl : size = 0 := by omega
    go_ret2
    exact ⟨_, ⟨_, rfl⟩, fun i hi => by simp at hi, hR.drewN, g_drewN hG _⟩
  · go_ret2
    exact ⟨_, ⟨_, rfl⟩, (sub_bytes hR.bytes pos size).drewN _, hR.drewN, g_drewN hG _⟩
end Go.Proofs.Ytfdbdhknamkipaa
