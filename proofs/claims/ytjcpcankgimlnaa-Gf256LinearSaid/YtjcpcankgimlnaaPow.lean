import Derived.Test.YtjcpcankgimlnaaFns
import Derived.IntWalk
namespace Go.Proofs.Ytjcpcankgimlnaa
open Go.RowKit
theorem setRow_alloc (w : World) (cs T : Array Value) (t : TypeId) : (w.alloc (.cells cs t)).setRow w.heap.size T = w.alloc (.cells T t) := by
  unfold World.setRow World.alloc
  congr 1
  apply Array.ext_getElem?
  intro i
  simp only [Array.getElem?_modify, Array.getElem?_push]
  by_cases h : w.heap.size = i
  · subst h; simp
  · rw [if_neg h, if_neg (fun e => h e.symm), if_neg (fun e => h e.symm)]
theorem sizeEq : zeros.size = (tab 255).size := by rw [zeros_size, tab_size]
theorem setRow_alloc2 (w : World) (o : Obj) (cs T : Array Value) (t : TypeId) : ((w.alloc o).alloc (.cells cs t)).setRow (w.heap.size + 1) T = (w.alloc o).alloc (.cells T t) := by
  have h := setRow_alloc (w.alloc o) cs T t
  rwa [show (w.alloc o).heap.size = w.heap.size + 1 from by show (w.heap.push o).size = _; simp] at h
theorem pow_zero_any (a : Int) (w : World) :
    Calls Try.prog 18 #[.int .u8 a, .int .i64 0] w fun e w' => e = .returned (.tuple #[.int .u8 1, .int .i64 0]) ∧ w = w' := by
  go_enter Try.func18, Try.ntmps18
  go_wp2
  go_ret2
  exact ⟨rfl, rfl⟩
theorem pow_zero_neg (n : Int) (h : n < 0) (w : World) :
    Calls Try.prog 18 #[.int .u8 0, .int .i64 n] w fun e w' => e = .returned (.tuple #[.int .u8 0, .int .i64 1]) ∧ w = w' := by
  have hne : (n == 0) = false := by simp; omega
  go_enter Try.func18, Try.ntmps18
  go_wp2
  go_ret2
  exact ⟨rfl, rfl⟩
theorem pow_zero_pos (n : Int) (h : 0 < n) (w : World) :
    Calls Try.prog 18 #[.int .u8 0, .int .i64 n] w fun e w' => e = .returned (.tuple #[.int .u8 0, .int .i64 0]) ∧ w = w' := by
  have hne : (n == 0) = false := by simp; omega
  have hlt : decide (n < 0) = false := by simp; omega
  go_enter Try.func18, Try.ntmps18
  go_wp2
  go_ret2
  exact ⟨rfl, rfl⟩
theorem pow_pos (a : Nat) (n : Int) (ha : a < 256) (h0 : a ≠ 0) (hn : n ≠ 0) (w : World) :
    Calls Try.prog 18 #[.int .u8 a, .int .i64 n] w fun e w' => e = .returned (.tuple #[.int .u8 (Gf.zpw a n), .int .i64 0]) ∧ Below w.heap.size w w' := by
  have hne : (n == 0) = false := by simp; omega
  have hae : ((a : Int) == 0) = false := by simp; omega
  have hv := tab_lg ha h0
  have hr := Gf.res_lt n
  have hl := Gf.lg_lt ha h0
  have hm : Gf.lg a * Gf.res n ≤ 254 * 254 := Nat.mul_le_mul (by omega) (by omega)
  have hp := tab_pow 255 (Gf.lg a * Gf.res n % 255) (Nat.mod_lt _ (by decide)) (by omega)
  have hz := zeroTab
  clear hn h0
  go_enter Try.func18, Try.ntmps18
  go_wp2_with (first | (go_at_call 34; refine (fill_any _).mono ?_; rintro e w' ⟨rfl, rfl⟩) | (refine wpList_store_row rfl 53 _ _ rfl (w.heap.size + 1) (tab 255) rfl rfl 53 zeros (heap_alloc2_new _ _ _) tabInfo sizeEq (tabOne 255) ?_))
  rw [setRow_alloc2]
  have hlt : (a : Int) < 256 := by omega
  have e1 : IntKind.i64.wrap ((Gf.lg a : Int) * (Gf.res n : Int)) = ((Gf.lg a * Gf.res n : Nat) : Int) := by
    rw [← Int.natCast_mul]; exact IntWalk.i64_in _ (by omega)
  have e2 : ((Gf.lg a * Gf.res n : Nat) : Int).tmod 255 = ((Gf.lg a * Gf.res n % 255 : Nat) : Int) := by
    rw [Int.tmod_eq_emod_of_nonneg (by omega)]; omega
  have e3 : ((Gf.lg a * Gf.res n % 255 : Nat) : Int) < 255 := by omega
  simp only [Act.put]
  go_quiet ((go_at_call 35; exact Calls.quiet_of_same ((residue_any n _).mono fun _ _ ⟨x, y⟩ => ⟨x, y.symm⟩)))
  go_wp2
  go_ret2
  exact ⟨rfl, below_drewN (((Below.refl _ _).alloc (Nat.le_refl _) _).alloc (by simp) _) _⟩
theorem cd_any (a b : Nat) (ha : a ≤ 255) (hb : b ≤ 255) (w : World) :
    Calls Try.prog 36 #[.int .i64 a, .int .i64 b] w fun e w' => e = .returned (.int .i64 (Nat.gcd a b)) ∧ Below w.heap.size w w' := by
  go_enter Try.func36, Try.ntmps36
  go_wp2
  go_loopw [0, 1] (fun x y wr => ∃ p q : Nat, p ≤ 255 ∧ q ≤ 255 ∧ x = .int .i64 p ∧ y = .int .i64 q ∧ Hid (Nat.gcd p q = Nat.gcd a b) ∧ Below w.heap.size w wr) (fun _ y _ => (intOf y).toNat)
  case atStart => exact ⟨a, b, ha, hb, rfl, rfl, hidIt rfl, Below.refl _ _⟩
  case round =>
    obtain ⟨p, q, hp, hq, rfl, rfl, hg, hbel⟩ := hrel
    by_cases h0 : q = 0
    · subst h0
      go_wp2
      go_ret
      exact ⟨ret_i64 (by have := hg.out; simp at this; omega), hbel⟩
    · have hne : ((q : Int) != 0) = true := by simp; omega
      have hpos : (1 : Int) ≤ (q : Int) := by omega
      go_wp2
      go_quiet (fail)
      go_wp2
      have hlt : p % q < q := Nat.mod_lt _ (by omega)
      go_roundw
      case rel => exact ⟨q, p % q, hq, by omega, rfl, by simp, hidIt (by rw [Gf.gcd_step]; exact hg.out), below_drewN hbel _⟩
      case measure => simp [intOf]; omega
theorem order_zero (w : World) :
    Calls Try.prog 20 #[.int .u8 0] w fun e w' => e = .returned (.tuple #[.int .i64 0, .int .i64 1]) ∧ w = w' := by
  go_enter Try.func20, Try.ntmps20
  go_wp2_with (go_at_call 19; refine (log_zero _).mono ?_; rintro e w' ⟨rfl, rfl⟩)
  go_ret2
  exact ⟨rfl, rfl⟩
theorem order_pos (a : Nat) (ha : a < 256) (h0 : a ≠ 0) (w : World) :
    Calls Try.prog 20 #[.int .u8 a] w fun e w' => e = .returned (.tuple #[.int .i64 (Gf.order a), .int .i64 0]) ∧ Below w.heap.size w w' := by
  have hl := Gf.lg_lt ha h0
  have hg := Gf.gcd_pos (Gf.lg a)
  go_enter Try.func20, Try.ntmps20
  go_wp2_with (fail)
  refine (log_pos a ha h0 _).mono ?_
  rintro e w1 ⟨rfl, hb1⟩
  go_wp2_with (fail)
  refine (cd_any 255 (Gf.lg a) (by omega) (by omega) _).mono ?_
  rintro e w2 ⟨rfl, hb2⟩
  go_wp2_with (fail)
  go_ret2
  exact ⟨by unfold Gf.order; simp, hb1.trans (hb2.mono hb1.size)⟩
end Go.Proofs.Ytjcpcankgimlnaa
