import Derived.Test.YtgkomejckbccdaaDoorHalf
namespace Go.Proofs.YtgkomejckbccdaaDoor
open Go.RowKit
theorem pt_row (w : World) (f c : Nat) : (w.alloc (.cells #[.int .i64 (f : Int), .int .i64 (c : Int)] 72)).cell? ⟨w.heap.size, 0, none⟩ = some (.int .i64 (f : Int)) ∧ (w.alloc (.cells #[.int .i64 (f : Int), .int .i64 (c : Int)] 72)).cell? ⟨w.heap.size, 1, none⟩ = some (.int .i64 (c : Int)) := by
  constructor <;> (rw [cell_of_row _ _ _ _ _ _ (heap_alloc_new w _)]; rfl)
/-- two parts in two blocks, behind w -/
structure Two2 (w : World) (L f k g m : Nat) (W : World) : Prop where
  l0 : W.cell? ⟨L, 0, none⟩ = some (.int .i64 (f : Int))
  l1 : W.cell? ⟨L, 1, none⟩ = some (.int .i64 (k : Int))
  r0 : W.cell? ⟨L + 1, 0, none⟩ = some (.int .i64 (g : Int))
  r1 : W.cell? ⟨L + 1, 1, none⟩ = some (.int .i64 (m : Int))
  bel : Below w.heap.size w W
theorem Two2.next {w W W' : World} {L f k g m : Nat} (h : Two2 w L f k g m W) (hb : Below W.heap.size W W') : Two2 w L f k g m W' :=
  ⟨(hb.cell (p := ⟨L, 0, none⟩) (bytes_lt h.l0)).trans h.l0, (hb.cell (p := ⟨L, 1, none⟩) (bytes_lt h.l1)).trans h.l1, (hb.cell (p := ⟨L + 1, 0, none⟩) (bytes_lt h.r0)).trans h.r0, (hb.cell (p := ⟨L + 1, 1, none⟩) (bytes_lt h.r1)).trans h.r1, below_then h.bel hb⟩
theorem Two2.drew {w W : World} {L f k g m : Nat} (h : Two2 w L f k g m W) : Two2 w L f k g m W.drew := h.next (Below.refl _ _).drew
theorem Two2.new {w W : World} {L f k g m : Nat} (h : Two2 w L f k g m W) (o : Obj) : Two2 w L f k g m (W.alloc o) := h.next ((Below.refl _ _).alloc (Nat.le_refl _) o)
theorem Two2.behind {w W W' : World} {L f k g m : Nat} (hb : Below W.heap.size W W') (h : Two2 w L f k g m W) : Two2 w L f k g m W' := h.next hb
theorem Two2.all {w W : World} {L f k g m : Nat} (h : Two2 w L f k g m W) : Two2 w L f k g m W ∧ W.cell? ⟨L, 0, none⟩ = some (.int .i64 (f : Int)) ∧ W.cell? ⟨L, 1, none⟩ = some (.int .i64 (k : Int)) ∧ W.cell? ⟨L + 1, 0, none⟩ = some (.int .i64 (g : Int)) ∧ W.cell? ⟨L + 1, 1, none⟩ = some (.int .i64 (m : Int)) := ⟨h, h.l0, h.l1, h.r0, h.r1⟩
theorem Two2.far {w W W' : World} {L f k g m B : Nat} (h : Two2 w L f k g m W) (hb : Below B W W') (hB : L + 1 < B) (hw : w.heap.size ≤ B) : Two2 w L f k g m W' :=
  ⟨(hb.cell (p := ⟨L, 0, none⟩) (show L < B by omega)).trans h.l0, (hb.cell (p := ⟨L, 1, none⟩) (show L < B by omega)).trans h.l1, (hb.cell (p := ⟨L + 1, 0, none⟩) hB).trans h.r0, (hb.cell (p := ⟨L + 1, 1, none⟩) hB).trans h.r1, h.bel.trans (hb.mono hw)⟩
theorem own_mono {w : World} {base base' n : Nat} {v : Value} {xs : List Value} (h : w.ownsRow base 9 1 v n xs) (hb : base' ≤ base) : w.ownsRow base' 9 1 v n xs :=
  ⟨h.1, h.2.imp id fun ⟨g, cap, cur, hv, hg, r⟩ => ⟨g, cap, cur, hv, Nat.le_trans hb hg, r⟩⟩
theorem two2_made (w w0 : World) (f k g m : Nat) (hb : Below w.heap.size w w0) : Two2 w w0.heap.size f k g m ((w0.alloc (.cells #[.int .i64 (f : Int), .int .i64 (k : Int)] 72)).alloc (.cells #[.int .i64 (g : Int), .int .i64 (m : Int)] 72)) := by
  have e1 : (w0.alloc (.cells #[.int .i64 (f : Int), .int .i64 (k : Int)] 72)).heap.size = w0.heap.size + 1 := World.size_alloc _ _
  have h1 := pt_row w0 f k
  have h2 := pt_row (w0.alloc (.cells #[.int .i64 (f : Int), .int .i64 (k : Int)] 72)) g m
  have b1 : Below w0.heap.size w0 (w0.alloc (.cells #[.int .i64 (f : Int), .int .i64 (k : Int)] 72)) := (Below.refl _ _).alloc (Nat.le_refl _) _
  have b2 : Below (w0.heap.size + 1) (w0.alloc (.cells #[.int .i64 (f : Int), .int .i64 (k : Int)] 72)) ((w0.alloc (.cells #[.int .i64 (f : Int), .int .i64 (k : Int)] 72)).alloc (.cells #[.int .i64 (g : Int), .int .i64 (m : Int)] 72)) := (Below.refl _ _).alloc (by omega) _
  rw [e1] at h2
  exact ⟨(b2.cell (p := ⟨w0.heap.size, 0, none⟩) (Nat.lt_succ_self _)).trans h1.1, (b2.cell (p := ⟨w0.heap.size, 1, none⟩) (Nat.lt_succ_self _)).trans h1.2, h2.1, h2.2, below_then hb (below_then b1 (by rw [e1]; exact b2))⟩
end Go.Proofs.YtgkomejckbccdaaDoor
