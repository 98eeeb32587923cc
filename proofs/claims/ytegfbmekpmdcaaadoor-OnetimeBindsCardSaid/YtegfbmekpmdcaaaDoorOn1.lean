import Derived.Test.YtegfbmekpmdcaaaDoorTag
import Derived.Test.YtegfbmekpmdcaaaDoorWu
import Derived.Test.YtegfbmekpmdcaaaDoorOc
import Derived.ChangeAlike
namespace Go.Proofs.YtegfbmekpmdcaaaDoor
open Go.RowKit
/-- whether parameters are valid, told on ints -/
def okZ (b s : Int) : Bool := (b == 1 || b == 2 || b == 4 || b == 8) && (decide (1 ≤ s) && decide (s ≤ 32))
theorem okZ_iff (b s : Int) : okZ b s = true ↔ (b = 1 ∨ b = 2 ∨ b = 4 ∨ b = 8) ∧ 1 ≤ s ∧ s ≤ 32 := by
  simp [okZ, or_assoc]
theorem okZ_nat (b s : Nat) : okZ (b : Int) (s : Int) = Ot.okB b s := by
  rw [Bool.eq_iff_iff, okZ_iff, Ot.ok_iff]; omega
theorem okZ_of {b s : Int} (h : okZ b s = true) : ∃ n m : Nat, b = n ∧ s = m ∧ Ot.okB n m = true := by
  have h1 := (okZ_iff b s).1 h
  refine ⟨b.toNat, s.toNat, by omega, by omega, ?_⟩
  rw [← okZ_nat, show ((b.toNat : Nat) : Int) = b by omega, show ((s.toNat : Nat) : Int) = s by omega]; exact h
/-- a box of parameters -/
def PB (w : World) (g : Nat) (b s : Int) : Prop := w.cell? ⟨g, 0, none⟩ = some (.int .i64 b) ∧ w.cell? ⟨g, 1, none⟩ = some (.int .i64 s)
theorem pb_new (w : World) (b s : Int) (t : TypeId) : PB (w.alloc (.cells #[.int .i64 b, .int .i64 s] t)) w.heap.size b s := by
  constructor <;> (rw [cell_of_row _ _ _ _ _ _ (heap_alloc_new w _)]; rfl)
theorem PB.below {B : Nat} {w w' : World} {g : Nat} {b s : Int} (h : PB w g b s) (hb : Below B w w') (hg : g < B) : PB w' g b s :=
  ⟨(hb.cell (p := ⟨g, 0, none⟩) hg).trans h.1, (hb.cell (p := ⟨g, 1, none⟩) hg).trans h.2⟩
theorem shl_pow (b : Nat) (h : b ≤ 8) : wrap64 ((2 : Int) ^ b) = ((2 ^ b : Nat) : Int) ∧ 2 ^ b ≤ 256 := by
  have h2 : 2 ^ b ≤ 2 ^ 8 := Nat.pow_le_pow_right (by omega) h
  have h3 : ((2 : Int) ^ b) = ((2 ^ b : Nat) : Int) := by simp
  rw [h3]
  generalize 2 ^ b = p at *
  exact ⟨IntWalk.wrap64_in _ ⟨by omega, by omega⟩, by omega⟩
set_option maxRecDepth 100000 in
theorem last_any (b s : Nat) (ho : Ot.okB b s = true) (w : World) :
    Calls Tryd.prog 41 #[.agg #[.int .i64 (b : Int), .int .i64 (s : Int)]] w fun e w' => e = .returned (.int .i64 (Ot.las b : Int)) ∧ Below w.heap.size w w' := by
  have hl := Ot.las_bd b s ho
  have hp := shl_pow b hl.2.2.2
  obtain ⟨p, hpp⟩ : ∃ p : Nat, Hid ((2 : Nat) ^ b = p) := ⟨2 ^ b, hidIt rfl⟩
  obtain ⟨l, hll⟩ : ∃ l, Hid (Ot.las b = l) := ⟨_, rfl⟩
  rw [hpp.out, hll.out] at hl
  rw [hpp.out] at hp
  rw [hll.out]
  have e1 : wrap64 ((2 : Int) ^ b) = (p : Int) := hp.1
  have h8 : b ≤ 8 := hl.2.2.2
  have hpl : l + 1 = p := hl.2.2.1
  have hp1 := hp.2
  clear hl hp
  go_enter Tryd.func41, Tryd.ntmps41
  go_wp2_with (fail)
  go_ret
  exact ⟨ret_int (by omega), (Below.refl _ _).alloc (Nat.le_refl _) _⟩
theorem digits_fn (b s : Nat) (ho : Ot.okB b s = true) (w : World) :
    Calls Tryd.prog 40 #[.agg #[.int .i64 (b : Int), .int .i64 (s : Int)]] w fun e w' => e = .returned (.int .i64 (Ot.mn b s : Int)) ∧ Below w.heap.size w w' := by
  have h := (Ot.ok_iff b s).1 ho
  have hs1 := h.2.1
  have hs2 := h.2.2
  have hb1 : 1 ≤ b := by omega
  have hb2 : b ≤ 8 := by omega
  have hfin : Hid ((8 * (s : Int)) / (b : Int) = (Ot.mn b s : Int)) := by show _ = _; unfold Ot.mn; push_cast; rfl
  clear h
  go_enter Tryd.func40, Tryd.ntmps40
  go_wp2_with (fail)
  go_ret
  exact ⟨ret_int hfin.out, (Below.refl _ _).alloc (Nat.le_refl _) _⟩
def exB (c : Int) : Bool := decide (0 ≤ c) && decide (c ≤ 999)
theorem exB_iff (c : Int) : exB c = true ↔ 0 ≤ c ∧ c ≤ 999 := by simp [exB]
theorem exists_any (c : Int) (w : World) :
    Calls Tryd.prog 45 #[.int .i64 c] w fun e w' => e = .returned (.bool (exB c)) ∧ w = w' := by
  obtain ⟨x, hx⟩ : ∃ x, Hid (exB c = x) := ⟨_, rfl⟩
  rw [hx.out]
  by_cases h0 : 0 ≤ c
  · by_cases h1 : c ≤ 999
    · obtain rfl : x = true := by rw [← hx.out]; exact (exB_iff c).2 ⟨h0, h1⟩
      clear hx
      go_enter Tryd.func45, Tryd.ntmps45
      go_wp2
      go_ret
      exact ⟨rfl, rfl⟩
    · obtain rfl : x = false := by rw [← hx.out]; exact Bool.eq_false_iff.2 fun h => h1 ((exB_iff c).1 h).2
      clear hx
      go_enter Tryd.func45, Tryd.ntmps45
      go_wp2
      go_ret
      exact ⟨rfl, rfl⟩
  · obtain rfl : x = false := by rw [← hx.out]; exact Bool.eq_false_iff.2 fun h => h0 ((exB_iff c).1 h).1
    clear hx
    go_enter Tryd.func45, Tryd.ntmps45
    go_wp2
    go_ret
    exact ⟨rfl, rfl⟩
end Go.Proofs.YtegfbmekpmdcaaaDoor
