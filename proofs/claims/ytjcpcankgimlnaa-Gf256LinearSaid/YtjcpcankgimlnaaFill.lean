import Derived.Test.YtjcpcankgimlnaaMul
import Derived.Laws.Rows
import Derived.Laws.CopyRow
namespace Go.Proofs.Ytjcpcankgimlnaa
open Go.RowKit
def zeros : Array Value := (List.replicate 255 (Value.int .u8 0) ++ List.replicate 256 (Value.int .i64 0)).toArray
def tab : Nat → Array Value
  | 0 => zeros
  | k + 1 => ((tab k).setIfInBounds k (.int .u8 (Gf.E k))).setIfInBounds (255 + Gf.E k) (.int .i64 k)
theorem zeros_size : zeros.size = 511 := by decide +kernel
theorem tab_size (k : Nat) : (tab k).size = 511 := by
  induction k with
  | zero => exact zeros_size
  | succ k ih => simp [tab, ih]
theorem tab_some (k j : Nat) (h : j < 511) : ∃ v, (tab k)[j]? = some v := ⟨_, Array.getElem?_eq_getElem (by rw [tab_size]; exact h)⟩
theorem tabInfo : (Try.prog.info? 53).map (·.size) = some (tab 255).size := by rw [tab_size]; kernel_rfl
theorem oneCell_set {cs : Array Value} {i : Nat} {v : Value} (h : cs.all (·.oneCell') = true) (hv : v.oneCell' = true) : (cs.setIfInBounds i v).all (·.oneCell') = true := by
  rw [Array.all_eq_true_iff_forall_mem] at *
  intro x hx
  rcases Array.mem_or_eq_of_mem_setIfInBounds hx with h1 | rfl
  · exact h x h1
  · exact hv
theorem tabOne (k : Nat) : (tab k).all (·.oneCell') = true := by
  induction k with
  | zero => decide +kernel
  | succ k ih => exact oneCell_set (oneCell_set ih rfl) rfl
theorem zeroTab (w : World) : (zeroValue 53).run Try.prog w = .ok (.agg zeros) w := by kernel_rfl
set_option maxRecDepth 100000 in
theorem fill_any (w : World) :
    Calls Try.prog 34 #[] w fun e w' => e = .returned (.agg (tab 255)) ∧ w' = w.alloc (.cells (tab 255) 53) := by
  have hz := zeroTab
  go_enter Try.func34, Try.ntmps34
  go_wp2
  go_loopw [1, 3] (fun p i wr => ∃ k : Nat, k ≤ 255 ∧ p = .int .u8 (Gf.E k) ∧ i = .int .i64 k ∧ wr = w.alloc (.cells (tab k) 53)) (fun _ i _ => 255 - (intOf i).toNat)
  case atStart => exact ⟨0, by omega, rfl, rfl, rfl⟩
  case round =>
    obtain ⟨k, hk, rfl, rfl, rfl⟩ := hrel
    by_cases hlt : k < 255
    · have hE := Gf.E_lt k
      obtain ⟨v1, h1⟩ := tab_some k k (by omega)
      obtain ⟨v2, h2⟩ : ∃ v2, ((tab k).setIfInBounds k (Value.int IntKind.u8 ↑(Gf.E k)))[255 + Gf.E k]? = some v2 := ⟨_, Array.getElem?_eq_getElem (by simp [tab_size]; omega)⟩
      go_wp2_with (go_at_call 33; refine (double_any _ hE _).mono ?_; rintro e w' ⟨rfl, rfl⟩)
      go_roundw
      case rel => exact ⟨k + 1, by omega, rfl, by go_num, rfl⟩
      case measure => simp [intOf]; omega
    · obtain rfl : k = 255 := by omega
      go_wp2_with (first | (refine wpList_load_row rfl 53 _ rfl w.heap.size rfl 53 (tab 255) (0, 0) _ (heap_alloc_new _ _) Try.underlying53 rfl tabInfo ?_) | (refine wpList_store_row rfl 53 _ _ rfl w.heap.size (tab 255) rfl rfl 53 (tab 255) (heap_alloc_new _ _) tabInfo rfl (tabOne 255) ?_))
      rw [setRow_self _ _ _ 53 (0, 0) (heap_alloc_new _ _)]
      exact bodyPost_ret (v := .agg (tab 255)) (results_cell_row (g := w.heap.size) Try.results34 _ _ _ _ _ _ rfl (heap_alloc_new _ _) Try.underlying53 rfl tabInfo) rfl ⟨rfl, rfl⟩
theorem tab_pow (n : Nat) : ∀ k, k < n → n ≤ 255 → (tab n)[k]? = some (.int .u8 (Gf.E k)) := by
  induction n with
  | zero => intro k h _; omega
  | succ n ih =>
    intro k h hn
    simp only [tab, Array.getElem?_setIfInBounds, Array.size_setIfInBounds, tab_size]
    rw [if_neg (by omega)]
    by_cases hk : n = k
    · subst hk; rw [if_pos rfl, if_pos (by omega)]
    · rw [if_neg hk]; exact ih k (by omega) (by omega)
theorem tab_log (n : Nat) : ∀ k, k < n → n ≤ 255 → (tab n)[255 + Gf.E k]? = some (.int .i64 k) := by
  induction n with
  | zero => intro k h _; omega
  | succ n ih =>
    intro k h hn
    have := Gf.E_lt k
    simp only [tab, Array.getElem?_setIfInBounds, Array.size_setIfInBounds, tab_size]
    by_cases hk : n = k
    · subst hk; rw [if_pos rfl, if_pos (by omega)]
    · rw [if_neg (fun e => hk (Gf.E_inj (by omega) (by omega) (by omega))), if_neg (by omega)]
      exact ih k (by omega) (by omega)
theorem tab_lg {a : Nat} (h : a < 256) (h0 : a ≠ 0) : (tab 255)[255 + a]? = some (.int .i64 (Gf.lg a)) := by
  have := tab_log 255 (Gf.lg a) (Gf.lg_lt h h0) (by omega)
  rwa [Gf.E_lg h h0] at this
end Go.Proofs.Ytjcpcankgimlnaa
