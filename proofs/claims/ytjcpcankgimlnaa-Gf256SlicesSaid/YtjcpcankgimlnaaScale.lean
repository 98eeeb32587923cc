import Derived.Test.YtjcpcankgimlnaaLawsD
namespace Go.Proofs.Ytjcpcankgimlnaa
open Go.RowKit
/-- the first k of n bytes are f, the others 0 -/
def fillA (f : Nat → Nat) (n k : Nat) : Array Value := ((List.range n).map fun i => Value.int .u8 (if i < k then f i else 0)).toArray
theorem fillA_size (f : Nat → Nat) (n k : Nat) : (fillA f n k).size = n := by simp [fillA]
theorem fillA_get (f : Nat → Nat) (n k i : Nat) (h : i < n) : (fillA f n k)[i]? = some (.int .u8 (if i < k then f i else 0)) := by simp [fillA, h]
theorem fillA_set (f : Nat → Nat) (n k : Nat) (v : Nat) (hv : v = f k) : (fillA f n k).setIfInBounds k (.int .u8 v) = fillA f n (k + 1) := by
  subst hv
  apply Array.ext_getElem?
  intro i
  rw [Array.getElem?_setIfInBounds, fillA_size]
  by_cases hi : i < n
  · rw [fillA_get _ _ _ _ hi]
    by_cases hk : k = i
    · subst hk; rw [if_pos rfl, if_pos hi, fillA_get _ _ _ _ hi, if_pos (by omega)]
    · rw [if_neg hk, fillA_get _ _ _ _ hi]
      by_cases h1 : i < k
      · rw [if_pos h1, if_pos (by omega)]
      · rw [if_neg h1, if_neg (by omega)]
  · have e1 : (fillA f n (k + 1))[i]? = none := by simp [fillA_size]; omega
    have e2 : (fillA f n k)[i]? = none := by simp [fillA_size]; omega
    rw [e1, e2]
    by_cases hk : k = i
    · subst hk; rw [if_pos rfl, if_neg hi]
    · rw [if_neg hk]
theorem fillA_at (f : Nat → Nat) (n k : Nat) (h : k < n) : (fillA f n k)[k]? = some (.int .u8 0) := by rw [fillA_get _ _ _ _ h, if_neg (by omega)]
theorem fillA_all (f : Nat → Nat) (n i : Nat) (h : i < n) : (fillA f n n)[i]? = some (.int .u8 (f i)) := by rw [fillA_get _ _ _ _ h, if_pos h]
theorem zero16 (w : World) : (zeroValue 58).run Try.prog w = .ok (.agg (fillA (fun _ => 0) 16 0)) w := by kernel_rfl
def lowF (c : Nat) (i : Nat) : Nat := Gf.mul c i
def highF (c : Nat) (i : Nat) : Nat := Gf.mul c (i * 16)
theorem split16 : ∀ x : Fin 256, (x.val % 16) ^^^ (x.val / 16 * 16) = x.val := by decide +kernel
theorem low_high {c x : Nat} (hc : c < 256) (hx : x < 256) : lowF c (x % 16) ^^^ highF c (x / 16) = Gf.mul x c := by
  unfold lowF highF
  rw [← Gf.mul_xor hc (by omega) (by omega), split16 ⟨x, hx⟩, Gf.mul_comm hc hx]
set_option maxRecDepth 100000 in
theorem multiplier_any (c : Nat) (hc : c < 256) (w : World) :
    Calls Try.prog 37 #[.int .u8 c] w fun e w' => e = .returned (.func (Fn.func 38) #[] #[.pointer (some ⟨w.heap.size, 0, none⟩), .pointer (some ⟨w.heap.size + 1, 0, none⟩)]) ∧ w' = (w.alloc (.cells (fillA (lowF c) 16 16) 58)).alloc (.cells (fillA (highF c) 16 16) 58) := by
  have hz := zero16
  go_enter Try.func37, Try.ntmps37
  go_wp2
  go_loopw [6, 5] (fun i _ wr => ∃ k : Nat, k ≤ 16 ∧ i = .int .u8 k ∧ wr = (w.alloc (.cells (fillA (lowF c) 16 k) 58)).alloc (.cells (fillA (highF c) 16 k) 58)) (fun i _ _ => 16 - (intOf i).toNat)
  case atStart => exact ⟨0, by omega, rfl, rfl⟩
  case round =>
    obtain ⟨k, hk, rfl, rfl⟩ := hrel
    by_cases hlt : k < 16
    · have h1 := fillA_at (lowF c) 16 k hlt
      have h2 := fillA_at (highF c) 16 k hlt
      go_wp2_with (fail)
      refine (mul_at c k _ rfl rfl hc (by omega) rfl _).mono ?_
      rintro e w' ⟨rfl, rfl⟩
      go_wp2_with (fail)
      refine (mul_at c (k * 16) _ rfl (by simp) hc (by omega) rfl _).mono ?_
      rintro e w' ⟨rfl, rfl⟩
      go_wp2_with (fail)
      go_roundw
      case rel => exact ⟨k + 1, by omega, by go_num, by rw [fillA_set (lowF c) 16 k (Gf.mul c k) rfl, fillA_set (highF c) 16 k (Gf.mul c (k * 16)) rfl]⟩
      case measure => simp [intOf]; omega
    · obtain rfl : k = 16 := by omega
      go_wp2
      go_ret
      exact ⟨rfl, rfl⟩
theorem closure_any (c x B1 B2 : Nat) (hc : c < 256) (hx : x < 256) (w : World) (h1 : w.cell? ⟨B1, x % 16, none⟩ = some (.int .u8 (lowF c (x % 16)))) (h2 : w.cell? ⟨B2, x / 16, none⟩ = some (.int .u8 (highF c (x / 16)))) :
    Calls Try.prog 38 #[.int .u8 x, .pointer (some ⟨B1, 0, none⟩), .pointer (some ⟨B2, 0, none⟩)] w fun e w' => e = .returned (.int .u8 (Gf.mul x c)) ∧ ∃ m, w' = w.drewN m := by
  have e1 : (x : Int) % 16 < 16 := by omega
  have e2 : (x : Int) / 16 < 16 := by omega
  have l1 : lowF c (x % 16) < 256 := Gf.mul_lt _ hc
  have l2 : highF c (x / 16) < 256 := Gf.mul_lt _ hc
  go_enter Try.func38, Try.ntmps38
  go_wp2
  go_quiet (fail)
  go_wp2
  go_ret
  exact ⟨ret_u8 (by rw [u8_xor_nat _ _ l1 l2, low_high hc hx]), _, rfl⟩
theorem info5 : (Try.prog.info? 5).map (fun i => (i.zero, i.size, i.bytes)) = some (some (.int .u8 0), 1, 1) := by kernel_rfl
theorem madeBytes (n : Nat) : madeCells (Value.int .u8 0).cells (n * 1) = fillA (fun _ => 0) n 0 := by
  apply Array.ext_getElem?
  intro i
  by_cases h : i < n
  · rw [fillA_get _ _ _ _ h]; simp [madeCells, Value.cells, h, Nat.mod_one]
  · have e1 : (fillA (fun _ => 0) n 0)[i]? = none := by simp [fillA_size]; omega
    rw [e1]; simp [madeCells]; omega
theorem make37 (n : Nat) (hn : n ≤ 281474976710656) (w : World) : (Instr.makeSlice 37 (.int .i64 n) (.int .i64 n)).run Try.prog w = .ok (.slice (some ⟨w.heap.size, 0, none⟩) n n) (w.alloc (.cells (fillA (fun _ => 0) n 0) 5)) := by
  obtain ⟨i, hi, hz0, hz1, hz2⟩ := info_parts info5
  have h := run_make (P := Try.prog) w 37 5 i (.int .u8 0) Try.underlying37 hi hz0 .i64 .i64 n n (by omega) (by omega) (by rw [hz2]; omega) (by omega)
  rw [hz1] at h
  simp only [Int.toNat_natCast] at h
  rwa [madeBytes] at h
/-- a new block B of bytes, the first k of which are f -/
def Row (wr : World) (B n k : Nat) (f : Nat → Nat) : Prop := wr.heap[B]? = some (.cells (fillA f n k) 5 (0, 0))
theorem Row.cell {wr : World} {B n k : Nat} {f : Nat → Nat} (h : Row wr B n k f) (i : Nat) (hi : i < n) : wr.cell? ⟨B, i, none⟩ = some (.int .u8 (if i < k then (f i : Int) else 0)) := by
  rw [cell_of_row wr B i _ _ _ h, fillA_get _ _ _ _ hi]
theorem Row.frozen {wr : World} {B n k : Nat} {f : Nat → Nat} (h : Row wr B n k f) (i : Nat) : wr.frozen? ⟨B, i, none⟩ = false := frozen_of_row wr B i _ _ h
theorem Row.set {wr : World} {B n k m v : Nat} {f : Nat → Nat} (h : Row wr B n k f) (hv : v = f k) : Row ((wr.setCell ⟨B, k, none⟩ (.int .u8 v)).drewN m) B n (k + 1) f := by
  show (wr.setCell ⟨B, k, none⟩ (.int .u8 v)).heap[B]? = _
  rw [heap_setCell_same wr B k _ _ _ h, fillA_set _ _ _ _ hv]
theorem bytes_lt {w : World} {b off : Nat} {v : Value} (h : w.cell? ⟨b, off, none⟩ = some v) : b < w.heap.size := World.block_lt_of_cell? w ⟨b, off, none⟩ h
/-- the state in the loop of Scale -/
structure ScR (w : World) (n c : Nat) (g : Nat → Nat) (wr : World) (k : Nat) : Prop where
  row : Row wr (w.heap.size + 2) n k g
  low : wr.heap[w.heap.size]? = some (.cells (fillA (lowF c) 16 16) 58 (0, 0))
  high : wr.heap[w.heap.size + 1]? = some (.cells (fillA (highF c) 16 16) 58 (0, 0))
  bel : Below w.heap.size w wr
theorem fillA_zero (f g : Nat → Nat) (n : Nat) : fillA f n 0 = fillA g n 0 := by simp [fillA]
theorem ScR.start (w : World) (n c : Nat) (g : Nat → Nat) : ScR w n c g (((w.alloc (.cells (fillA (lowF c) 16 16) 58)).alloc (.cells (fillA (highF c) 16 16) 58)).alloc (.cells (fillA (fun _ => 0) n 0) 5)) 0 := by
  have s1 : ∀ o, (w.alloc o).heap.size = w.heap.size + 1 := fun o => by simp
  have s2 : ∀ o o', ((w.alloc o).alloc o').heap.size = w.heap.size + 2 := fun o o' => by simp
  constructor
  · unfold Row
    rw [fillA_zero g (fun _ => 0), ← s2 _ _]; exact heap_alloc_new _ _
  · rw [Below.heap_alloc _ _ _ (by rw [s2]; omega)]; exact heap_alloc2_old _ _ _
  · rw [Below.heap_alloc _ _ _ (by rw [s2]; omega)]; exact heap_alloc2_new _ _ _
  · exact (((Below.refl _ _).alloc (Nat.le_refl _) _).alloc (by rw [s1]; omega) _).alloc (by rw [s2]; omega) _
theorem ScR.step {w wr : World} {n c k m v : Nat} {g : Nat → Nat} (h : ScR w n c g wr k) (hv : v = g k) : ScR w n c g ((wr.setCell ⟨w.heap.size + 2, k, none⟩ (.int .u8 v)).drewN m) (k + 1) := by
  constructor
  · exact h.row.set hv
  · show (wr.setCell ⟨w.heap.size + 2, k, none⟩ (.int .u8 v)).heap[w.heap.size]? = _
    rw [heap_setCell_other _ _ _ _ (by simp)]; exact h.low
  · show (wr.setCell ⟨w.heap.size + 2, k, none⟩ (.int .u8 v)).heap[w.heap.size + 1]? = _
    rw [heap_setCell_other _ _ _ _ (by simp)]; exact h.high
  · exact below_drewN (h.bel.setCell (by simp) _) _
set_option maxRecDepth 100000 in
theorem scale_any (a : Option Addr) (n cap c : Nat) (f : Nat → Nat) (hn : n ≤ 200) (hc : c < 256) (w : World) (h : Bytes w a n f) :
    Calls Try.prog 30 #[.slice a n cap, .int .u8 c] w fun e w' => e = .returned (.slice (some ⟨w.heap.size + 2, 0, none⟩) n n) ∧ Row w' (w.heap.size + 2) n n (fun i => Gf.mul (f i) c) ∧ Below w.heap.size w w' := by
  have hmk := make37 n (by omega)
  go_enter Try.func30, Try.ntmps30
  go_wp2_with (go_at_call 37; refine (multiplier_any c hc _).mono ?_; rintro e w' ⟨rfl, rfl⟩)
  go_loopw [15, 7] (fun i _ wr => ∃ k : Nat, k ≤ n ∧ i = .int .i64 k ∧ ScR w n c (fun i => Gf.mul (f i) c) wr k) (fun i _ _ => n - (intOf i).toNat)
  case atStart => exact ⟨0, by omega, rfl, ScR.start ..⟩
  case round =>
    obtain ⟨k, hk, rfl, R⟩ := hrel
    by_cases hlt : k < n
    · obtain ⟨hf, b, off, rfl, e1⟩ := h k hlt
      have hbs := bytes_lt e1
      have c1 : wr.cell? ⟨b, off + k, none⟩ = some (.int .u8 (f k)) := (R.bel.cell (p := ⟨b, off + k, none⟩) hbs).trans e1
      have c2 : wr.cell? ⟨w.heap.size + 2, k, none⟩ = some (.int .u8 0) := by have := R.row.cell k hlt; simpa using this
      have c3 := R.row.frozen k
      have c4 : wr.cell? ⟨w.heap.size, f k % 16, none⟩ = some (.int .u8 (lowF c (f k % 16))) := by rw [cell_of_row _ _ _ _ _ _ R.low, fillA_all _ _ _ (by omega)]
      have c5 : wr.cell? ⟨w.heap.size + 1, f k / 16, none⟩ = some (.int .u8 (highF c (f k / 16))) := by rw [cell_of_row _ _ _ _ _ _ R.high, fillA_all _ _ _ (by omega)]
      clear h e1
      go_wp2_with (fail)
      refine (closure_any c (f k) _ _ hc hf _ c4 c5).mono ?_
      rintro e w' ⟨rfl, m, rfl⟩
      go_wp2_with (fail)
      go_roundw
      case rel => exact ⟨k + 1, by omega, by go_num, R.step rfl⟩
      case measure => simp [intOf]; omega
    · obtain rfl : k = n := by omega
      go_wp2
      go_ret
      exact ⟨rfl, R.row, R.bel⟩
end Go.Proofs.Ytjcpcankgimlnaa
