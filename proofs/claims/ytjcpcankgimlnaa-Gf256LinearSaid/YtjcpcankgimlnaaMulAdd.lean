import Derived.Test.YtjcpcankgimlnaaScale
import Derived.StillTailTactics
namespace Go.Proofs.Ytjcpcankgimlnaa
open Go.RowKit
theorem fillA_congr {f g : Nat → Nat} {n : Nat} (h : ∀ i, i < n → f i = g i) : fillA f n n = fillA g n n := by
  apply Array.ext_getElem?
  intro i
  by_cases hi : i < n
  · rw [fillA_all _ _ _ hi, fillA_all _ _ _ hi, h i hi]
  · have e1 : (fillA f n n)[i]? = none := by simp [fillA_size]; omega
    have e2 : (fillA g n n)[i]? = none := by simp [fillA_size]; omega
    rw [e1, e2]
theorem fillA_upd (f : Nat → Nat) (n k v : Nat) : (fillA f n n).setIfInBounds k (.int .u8 v) = fillA (fun i => if i = k then v else f i) n n := by
  apply Array.ext_getElem?
  intro i
  rw [Array.getElem?_setIfInBounds, fillA_size]
  by_cases hi : i < n
  · rw [fillA_all _ _ _ hi, fillA_all _ _ _ hi]
    by_cases hk : k = i
    · subst hk; rw [if_pos rfl, if_pos hi, if_pos rfl]
    · rw [if_neg hk, if_neg (fun e => hk e.symm)]
  · have e1 : (fillA f n n)[i]? = none := by simp [fillA_size]; omega
    have e2 : (fillA (fun i => if i = k then v else f i) n n)[i]? = none := by simp [fillA_size]; omega
    rw [e1, e2]
    by_cases hk : k = i
    · subst hk; rw [if_pos rfl, if_neg hi]
    · rw [if_neg hk]
theorem Row.congr {wr : World} {B n : Nat} {f g : Nat → Nat} (h : Row wr B n n f) (hfg : ∀ i, i < n → f i = g i) : Row wr B n n g := by
  unfold Row at *; rw [← fillA_congr hfg]; exact h
theorem Row.at {wr : World} {B n : Nat} {f : Nat → Nat} (h : Row wr B n n f) (i : Nat) (hi : i < n) : wr.cell? ⟨B, i, none⟩ = some (.int .u8 (f i)) := by
  rw [cell_of_row wr B i _ _ _ h, fillA_all _ _ _ hi]
theorem Row.upd {wr : World} {B n k v : Nat} {f g : Nat → Nat} (h : Row wr B n n f) (hg : ∀ i, i < n → g i = if i = k then v else f i) : Row (wr.setCell ⟨B, k, none⟩ (.int .u8 v)) B n n g := by
  have h1 : Row (wr.setCell ⟨B, k, none⟩ (.int .u8 v)) B n n (fun i => if i = k then v else f i) := by
    show (wr.setCell ⟨B, k, none⟩ (.int .u8 v)).heap[B]? = _
    rw [heap_setCell_same wr B k _ _ _ h, fillA_upd]
  exact h1.congr fun i hi => (hg i hi).symm
theorem Row.bytes {wr : World} {B n : Nat} {f : Nat → Nat} (h : Row wr B n n f) (hf : ∀ i, i < n → f i < 256) : Bytes wr (some ⟨B, 0, none⟩) n f := by
  intro i hi
  exact ⟨hf i hi, B, 0, rfl, by rw [Nat.zero_add]; exact h.at i hi⟩
theorem Bytes.below {w wr : World} {a : Option Addr} {n : Nat} {f : Nat → Nat} (h : Bytes w a n f) (hb : Below w.heap.size w wr) : Bytes wr a n f := by
  intro i hi
  obtain ⟨h1, b, off, h2, h3⟩ := h i hi
  exact ⟨h1, b, off, h2, (hb.cell (p := ⟨b, off + i, none⟩) (bytes_lt h3)).trans h3⟩
theorem muladd_len (a1 a2 : Option Addr) (n1 n2 c1 c2 : Nat) (c : Int) (h : n1 ≠ n2) (w : World) :
    Calls Try.prog 27 #[.slice a1 n1 c1, .slice a2 n2 c2, .int .u8 c] w fun e w' => e = .returned (.tuple #[.slice none 0 0, .int .i64 1]) ∧ w = w' := by
  go_enter Try.func27, Try.ntmps27
  go_wp2
  go_ret2
  exact ⟨rfl, rfl⟩
set_option maxRecDepth 100000 in
theorem muladd_any (a1 a2 : Option Addr) (n c1 c2 c : Nat) (f g : Nat → Nat) (hn : n ≤ 200) (hc : c < 256) (w : World) (h1 : Bytes w a1 n f) (h2 : Bytes w a2 n g) :
    Calls Try.prog 27 #[.slice a1 n c1, .slice a2 n c2, .int .u8 c] w fun e w' => e = .returned (.tuple #[.slice (some ⟨w.heap.size + 2, 0, none⟩) n n, .int .i64 0]) ∧ Row w' (w.heap.size + 2) n n (fun i => f i ^^^ Gf.mul (g i) c) ∧ Below w.heap.size w w' := by
  go_enter Try.func27, Try.ntmps27
  go_wp2_with (fail)
  refine (scale_any a2 n c2 c g hn hc _ h2).mono ?_
  rintro e w1 ⟨rfl, hrow, hbel⟩
  go_wp2_with (fail)
  go_loopw [20, 9] (fun i _ wr => ∃ k : Nat, k ≤ n ∧ i = .int .i64 k ∧ Row wr (w.heap.size + 2) n n (fun i => if i < k then f i ^^^ Gf.mul (g i) c else Gf.mul (g i) c) ∧ Below w.heap.size w wr) (fun i _ _ => n - (intOf i).toNat)
  case atStart => exact ⟨0, by omega, rfl, hrow.congr (fun i _ => by simp), hbel⟩
  case round =>
    obtain ⟨k, hk, rfl, R, hb⟩ := hrel
    by_cases hlt : k < n
    · obtain ⟨hf, b, off, rfl, e1⟩ := h1 k hlt
      have hg := (h2 k hlt).1
      have hm := Gf.mul_lt c hg
      have d1 : wr.cell? ⟨b, off + k, none⟩ = some (.int .u8 (f k)) := (hb.cell (p := ⟨b, off + k, none⟩) (bytes_lt e1)).trans e1
      have d2 : wr.cell? ⟨w.heap.size + 2, k, none⟩ = some (.int .u8 (Gf.mul (g k) c)) := by have := R.at k hlt; simpa using this
      have d3 := frozen_of_row wr (w.heap.size + 2) k _ _ R
      have hz : (k : Int) < (n : Int) := by omega
      clear h1 h2 e1
      go_wp2
      go_still_tail 12, (by kernel_rfl)
      still_call ((add_at (Gf.mul (g k) c) (f k) _ rfl rfl hm hf rfl _).mono fun _ _ x => ⟨x.1, x.2.symm⟩)
      repeat still_step
      refine wpStill_nil ?_
      change wpList _ _ _ _ _ wr.drew
      go_wp2
      go_roundw
      case rel =>
        refine ⟨k + 1, by omega, by go_num, ?_, (hb.setCell (by simp) _).drew⟩
        exact R.upd fun i _ => by
          by_cases h1 : i = k
          · subst h1; rw [if_pos (by omega), if_pos rfl, Nat.xor_comm]
          · rw [if_neg h1]
            by_cases h2 : i < k
            · rw [if_pos h2, if_pos (by omega)]
            · rw [if_neg h2, if_neg (by omega)]
      case measure => simp [intOf]; omega
    · obtain rfl : k = n := by omega
      go_wp2
      go_ret2
      exact ⟨rfl, R.congr (fun i hi => by rw [if_pos hi]), hb⟩
end Go.Proofs.Ytjcpcankgimlnaa
