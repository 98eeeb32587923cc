import Derived.Test.YtjcpcankgimlnaaMulAdd
import Derived.Laws.BytesString
namespace Go.Proofs.Ytjcpcankgimlnaa
open Go.RowKit
def bstr (f : Nat → Nat) (n : Nat) : ByteArray := ((List.range n).map fun i => ((f i : Nat) : Int)).foldl (fun r n => r.push (UInt8.ofNat n.toNat)) ByteArray.empty
theorem bstr_congr {f g : Nat → Nat} {n : Nat} (h : ∀ i, i < n → f i = g i) : bstr f n = bstr g n := by
  unfold bstr
  congr 1
  apply List.map_congr_left
  intro i hi
  rw [h i (List.mem_range.1 hi)]
theorem conv_bytes (w : World) (a : Option Addr) (n cap : Nat) (f : Nat → Nat) (ha : a = none → n = 0) (h : Bytes w a n f) :
    (convert 37 9 (.slice a n cap)).run Try.prog w = .ok (.string (bstr f n)) w := by
  rw [run_convert_bytes_string w 37 9 5 a n cap Try.underlying37 Try.underlying5 Try.underlying9]
  match a, ha, h with
  | none, ha, _ =>
    obtain rfl := ha rfl
    rfl
  | some x, _, h =>
    refine run_bytesToString w x n cap ((List.range n).map fun i => ((f i : Nat) : Int)) ?_
    have hl := run_loadCells_list (P := Try.prog) w x (((List.range n).map fun i => ((f i : Nat) : Int)).map (Value.int .u8)) (fun j v hv => by
      simp only [List.map_map, List.getElem?_map] at hv
      by_cases hj : j < n
      · obtain ⟨_, b, off, h2, h3⟩ := h j hj
        simp only [Option.some.injEq] at h2
        subst h2
        rw [List.getElem?_range hj] at hv
        simp only [Option.map_some, Option.some.injEq, Function.comp] at hv
        subst hv
        have hadd : (⟨b, off, none⟩ : Addr).add j = ⟨b, off + j, none⟩ := by unfold Addr.add; split <;> simp_all
        rw [hadd, h3]
      · rw [List.getElem?_eq_none (by simp; omega)] at hv
        cases hv)
    simpa using hl
theorem same_true (a1 a2 : Option Addr) (n c1 c2 : Nat) (f g : Nat → Nat) (w : World) (z1 : a1 = none → n = 0) (z2 : a2 = none → n = 0) (h1 : Bytes w a1 n f) (h2 : Bytes w a2 n g) (hfg : ∀ i, i < n → f i = g i) :
    Calls Try.prog 29 #[.slice a1 n c1, .slice a2 n c2] w fun e w' => e = .returned (.bool true) ∧ w = w' := by
  have k1 := conv_bytes w a1 n c1 f z1 h1
  have k2 := conv_bytes w a2 n c2 g z2 h2
  rw [← bstr_congr hfg] at k2
  clear h1 h2 z1 z2
  go_enter Try.func29, Try.ntmps29
  go_wp2
  go_ret
  exact ⟨rfl, rfl⟩
theorem refdot_any (a1 a2 : Option Addr) (n c1 c2 : Nat) (f g : Nat → Nat) (z : Int) (hz : (Gf.dot f g n : Int) = z) (hn : n ≤ 200) (w : World) (h1 : Bytes w a1 n f) (h2 : Bytes w a2 n g) :
    Calls Try.prog 32 #[.slice a1 n c1, .slice a2 n c2] w fun e w' => e = .returned (.int .u8 z) ∧ ∃ m, w' = w.drewN m := by
  subst hz
  go_enter Try.func32, Try.ntmps32
  go_wp2
  go_loopw [5, 6, 9] (fun s _ i wr => ∃ k : Nat, k ≤ n ∧ s = .int .u8 (Gf.dot f g k) ∧ i = .int .i64 k ∧ Hid (∃ m, wr = w.drewN m)) (fun _ _ i _ => n - (intOf i).toNat)
  case atStart => exact ⟨0, by omega, rfl, rfl, hidIt ⟨0, rfl⟩⟩
  case round =>
    obtain ⟨k, hk, rfl, rfl, hw⟩ := hrel
    by_cases hlt : k < n
    · obtain ⟨hf, b1, o1, rfl, e1⟩ := h1.drewN hw.out k hlt
      obtain ⟨hg, b2, o2, rfl, e2⟩ := h2.drewN hw.out k hlt
      have hd := Gf.dot_lt f g k (fun i hi => (h1 i (by omega)).1)
      have hm := Gf.mul_lt (g k) hf
      have hz : (k : Int) < (n : Int) := by omega
      clear h1 h2
      go_wp2
      go_quiet ((go_at_call 16; exact Calls.quiet_of_same ((refmul_any _ _ hf hg _).mono fun _ _ x => ⟨x.1, x.2.symm⟩)))
      go_wp2
      go_roundw
      case rel => exact ⟨k + 1, by omega, by rw [u8_xor_nat _ _ hd hm]; rfl, by go_num, hidIt (drewN_more hw.out _)⟩
      case measure => simp [intOf]; omega
    · obtain rfl : k = n := by omega
      go_wp2
      go_ret
      exact ⟨rfl, hw.out⟩
end Go.Proofs.Ytjcpcankgimlnaa
