import Derived.Test.YtpfekbbmbdegbaaDoorSt
namespace Go.Proofs.YtpfekbbmbdegbaaDoor
open Go.RowKit
section
variable {w : World} {P Q g0 g1 a0 a1 n0 n1 c0 c1 : Nat} {y0 y1 x0 x1 : List Nat}
theorem St.laid {wr : World} (h : St w wr P Q g0 g1 a0 a1 n0 n1 c0 c1 y0 y1 x0 x1) (hL : Laid w) : Laid wr := hL.below h.bel hL.two
theorem refsum_n (a : Option Addr) (n cap : Nat) (xs : List Nat) (hn : n = xs.length) (hx : ∀ x ∈ xs, x < 256) (hbig : xs.length ≤ 1200) (w : World) (h : Bytes w a xs) (hnil : a = none → cap = 0 ∧ xs = []) :
    Calls Tryd.prog 19 #[.slice a n cap] w fun e w' => e = .returned (.string (str (Sh.sum xs))) ∧ Below w.heap.size w w' := by
  subst hn; exact refsum_any a cap xs hx hbig w h hnil
theorem St.all0 {wr : World} (h : St w wr P Q g0 g1 a0 a1 n0 n1 c0 c1 y0 y1 x0 x1) : St w wr P Q g0 g1 a0 a1 n0 n1 c0 c1 y0 y1 x0 x1 ∧ wr.cell? ⟨P, 0, none⟩ = some (.pointer (some ⟨g0, 0, none⟩)) ∧ wr.cell? ⟨Q, 0, none⟩ = some (.slice (some ⟨a0, 0, none⟩) n0 c0) := ⟨h, h.pc0, h.qc0⟩
theorem St.all1 {wr : World} (h : St w wr P Q g0 g1 a0 a1 n0 n1 c0 c1 y0 y1 x0 x1) : St w wr P Q g0 g1 a0 a1 n0 n1 c0 c1 y0 y1 x0 x1 ∧ wr.cell? ⟨P, 1, none⟩ = some (.pointer (some ⟨g1, 0, none⟩)) ∧ wr.cell? ⟨Q, 1, none⟩ = some (.slice (some ⟨a1, 0, none⟩) n1 c1) := ⟨h, h.pc1, h.qc1⟩
theorem St.all {wr : World} (h : St w wr P Q g0 g1 a0 a1 n0 n1 c0 c1 y0 y1 x0 x1) : St w wr P Q g0 g1 a0 a1 n0 n1 c0 c1 y0 y1 x0 x1 ∧ wr.cell? ⟨P, 0, none⟩ = some (.pointer (some ⟨g0, 0, none⟩)) ∧ wr.cell? ⟨P, 1, none⟩ = some (.pointer (some ⟨g1, 0, none⟩)) ∧ wr.cell? ⟨Q, 0, none⟩ = some (.slice (some ⟨a0, 0, none⟩) n0 c0) ∧ wr.cell? ⟨Q, 1, none⟩ = some (.slice (some ⟨a1, 0, none⟩) n1 c1) := ⟨h, h.pc0, h.pc1, h.qc0, h.qc1⟩
theorem opC {wr : World} (h : St w wr P Q g0 g1 a0 a1 n0 n1 c0 c1 y0 y1 x0 x1) {b o : Nat} {v : Value} (hc : w.cell? ⟨b, o, none⟩ = some v) : wr.cell? ⟨b, o, none⟩ = some v := (h.bel.cell (p := ⟨b, o, none⟩) (bytes_lt hc)).trans hc
theorem st_sum0 {wr : World} (h : St w wr P Q g0 g1 a0 a1 n0 n1 c0 c1 y0 y1 x0 x1) (hL : Laid w) (hb : y0.length ≤ 1000) (st : ByteArray) (hst : Hid (str (Sh.sum y0) = st)) :
    Calls Tryd.prog 18 #[.pointer (some ⟨g0, 0, none⟩)] wr fun e w' => e = .returned (.string st) ∧ Below wr.heap.size wr w' ∧ St w w' P Q g0 g1 a0 a1 n0 n1 c0 c1 y0 y1 x0 x1 := by
  rw [← hst.out]
  exact (smSum_any g0 y0 (by omega) wr (h.laid hL) h.s0).mono fun _ _ ⟨e1, e2⟩ => ⟨e1, e2, h.below e2⟩
theorem st_ref0 {wr : World} (h : St w wr P Q g0 g1 a0 a1 n0 n1 c0 c1 y0 y1 x0 x1) (hb : x0.length ≤ 1000) (st : ByteArray) (hst : Hid (str (Sh.sum x0) = st)) :
    Calls Tryd.prog 19 #[.slice (some ⟨a0, 0, none⟩) n0 c0] wr fun e w' => e = .returned (.string st) ∧ Below wr.heap.size wr w' ∧ St w w' P Q g0 g1 a0 a1 n0 n1 c0 c1 y0 y1 x0 x1 := by
  rw [← hst.out]
  exact (refsum_n (some ⟨a0, 0, none⟩) n0 c0 x0 h.l0 h.t0 (by omega) wr h.b0 (fun e => by cases e)).mono fun _ _ ⟨e1, e2⟩ => ⟨e1, e2, h.below e2⟩
theorem st_len0 {wr : World} (h : St w wr P Q g0 g1 a0 a1 n0 n1 c0 c1 y0 y1 x0 x1) (hy : y0.length = n0) :
    Calls Tryd.prog 20 #[.pointer (some ⟨g0, 0, none⟩)] wr fun e w' => e = .returned (.int .i64 (n0 : Int)) ∧ wr = w' := by
  rw [← hy]; exact len_any g0 y0 wr h.s0
theorem st_write0 {wr : World} (h : St w wr P Q g0 g1 a0 a1 n0 n1 c0 c1 y0 y1 x0 x1) (hL : Laid w) (hb : y0.length ≤ 100000) (A : Option Addr) (L C : Nat) (xs : List Nat) (hxl : xs.length ≤ 100000) (hR : RowB w A L C xs) :
    Calls Tryd.prog 17 #[.pointer (some ⟨g0, 0, none⟩), .slice A L C] wr fun e w' => e = .returned (.tuple #[]) ∧ St w w' P Q g0 g1 a0 a1 n0 n1 c0 c1 (y0 ++ xs) y1 x0 x1 := by
  refine (smWrite_at g0 y0 A L C xs hR.len hR.lt (by omega) hR.lecap wr (h.laid hL) h.s0 (hR.bytes.below h.bel) (fun h0 x hx => ?_)).mono fun _ w' ⟨e1, e2, e3⟩ => ⟨e1, h.write0 e2 e3⟩
  have := hR.blk h0 x hx
  have := h.lo
  omega
theorem st_clone0 {wr : World} (h : St w wr P Q g0 g1 a0 a1 n0 n1 c0 c1 y0 y1 x0 x1) :
    Calls Tryd.prog 21 #[.pointer (some ⟨g0, 0, none⟩)] wr fun e w' => e = .returned (.pointer (some ⟨wr.heap.size, 0, none⟩)) ∧ SR w' wr.heap.size y0 ∧ Below wr.heap.size wr w' := clone_any g0 y0 wr h.s0
theorem st_sum1 {wr : World} (h : St w wr P Q g0 g1 a0 a1 n0 n1 c0 c1 y0 y1 x0 x1) (hL : Laid w) (hb : y1.length ≤ 1000) (st : ByteArray) (hst : Hid (str (Sh.sum y1) = st)) :
    Calls Tryd.prog 18 #[.pointer (some ⟨g1, 0, none⟩)] wr fun e w' => e = .returned (.string st) ∧ Below wr.heap.size wr w' ∧ St w w' P Q g0 g1 a0 a1 n0 n1 c0 c1 y0 y1 x0 x1 := by
  rw [← hst.out]
  exact (smSum_any g1 y1 (by omega) wr (h.laid hL) h.s1).mono fun _ _ ⟨e1, e2⟩ => ⟨e1, e2, h.below e2⟩
theorem st_ref1 {wr : World} (h : St w wr P Q g0 g1 a0 a1 n0 n1 c0 c1 y0 y1 x0 x1) (hb : x1.length ≤ 1000) (st : ByteArray) (hst : Hid (str (Sh.sum x1) = st)) :
    Calls Tryd.prog 19 #[.slice (some ⟨a1, 0, none⟩) n1 c1] wr fun e w' => e = .returned (.string st) ∧ Below wr.heap.size wr w' ∧ St w w' P Q g0 g1 a0 a1 n0 n1 c0 c1 y0 y1 x0 x1 := by
  rw [← hst.out]
  exact (refsum_n (some ⟨a1, 0, none⟩) n1 c1 x1 h.l1 h.t1 (by omega) wr h.b1 (fun e => by cases e)).mono fun _ _ ⟨e1, e2⟩ => ⟨e1, e2, h.below e2⟩
theorem st_len1 {wr : World} (h : St w wr P Q g0 g1 a0 a1 n0 n1 c0 c1 y0 y1 x0 x1) (hy : y1.length = n1) :
    Calls Tryd.prog 20 #[.pointer (some ⟨g1, 0, none⟩)] wr fun e w' => e = .returned (.int .i64 (n1 : Int)) ∧ wr = w' := by
  rw [← hy]; exact len_any g1 y1 wr h.s1
theorem st_write1 {wr : World} (h : St w wr P Q g0 g1 a0 a1 n0 n1 c0 c1 y0 y1 x0 x1) (hL : Laid w) (hb : y1.length ≤ 100000) (A : Option Addr) (L C : Nat) (xs : List Nat) (hxl : xs.length ≤ 100000) (hR : RowB w A L C xs) :
    Calls Tryd.prog 17 #[.pointer (some ⟨g1, 0, none⟩), .slice A L C] wr fun e w' => e = .returned (.tuple #[]) ∧ St w w' P Q g0 g1 a0 a1 n0 n1 c0 c1 y0 (y1 ++ xs) x0 x1 := by
  refine (smWrite_at g1 y1 A L C xs hR.len hR.lt (by omega) hR.lecap wr (h.laid hL) h.s1 (hR.bytes.below h.bel) (fun h0 x hx => ?_)).mono fun _ w' ⟨e1, e2, e3⟩ => ⟨e1, h.write1 e2 e3⟩
  have := hR.blk h0 x hx
  have := h.lo
  omega
theorem st_clone1 {wr : World} (h : St w wr P Q g0 g1 a0 a1 n0 n1 c0 c1 y0 y1 x0 x1) :
    Calls Tryd.prog 21 #[.pointer (some ⟨g1, 0, none⟩)] wr fun e w' => e = .returned (.pointer (some ⟨wr.heap.size, 0, none⟩)) ∧ SR w' wr.heap.size y1 ∧ Below wr.heap.size wr w' := clone_any g1 y1 wr h.s1
end
end Go.Proofs.YtpfekbbmbdegbaaDoor
