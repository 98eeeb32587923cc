import Derived.Test.YtjcpcankgimlnaaPow
namespace Go.Proofs.Ytjcpcankgimlnaa
open Go.RowKit
/-- n bytes f 0, f 1, .. at a -/
def Bytes (w : World) (a : Option Addr) (n : Nat) (f : Nat → Nat) : Prop := ∀ i, i < n → f i < 256 ∧ ∃ b off, a = some ⟨b, off, none⟩ ∧ w.cell? ⟨b, off + i, none⟩ = some (.int .u8 (f i))
theorem Bytes.drewN {w wr : World} {a : Option Addr} {n : Nat} {f : Nat → Nat} (h : Bytes w a n f) (hw : ∃ m, wr = w.drewN m) : Bytes wr a n f := by
  obtain ⟨m, rfl⟩ := hw
  intro i hi
  obtain ⟨h1, b, off, h2, h3⟩ := h i hi
  exact ⟨h1, b, off, h2, by simpa using h3⟩
theorem drewN_more {w wr : World} (h : ∃ m, wr = w.drewN m) (n : Nat) : ∃ m, wr.drewN n = w.drewN m := by
  obtain ⟨m, rfl⟩ := h
  exact ⟨_, World.drewN_drewN ..⟩
theorem dot_any (a1 a2 : Option Addr) (n c1 c2 : Nat) (f g : Nat → Nat) (hn : n ≤ 9223372036854775807) (w : World) (h1 : Bytes w a1 n f) (h2 : Bytes w a2 n g) :
    Calls Try.prog 28 #[.slice a1 n c1, .slice a2 n c2] w fun e w' => e = .returned (.tuple #[.int .u8 (Gf.dot f g n), .int .i64 0]) ∧ ∃ m, w' = w.drewN m := by
  go_enter Try.func28, Try.ntmps28
  go_wp2
  go_loopw [6, 7, 15] (fun s _ i wr => ∃ k : Nat, k ≤ n ∧ s = .int .u8 (Gf.dot f g k) ∧ i = .int .i64 k ∧ Hid (∃ m, wr = w.drewN m)) (fun _ _ i _ => n - (intOf i).toNat)
  case atStart => exact ⟨0, by omega, rfl, rfl, hidIt ⟨0, rfl⟩⟩
  case round =>
    obtain ⟨k, hk, rfl, rfl, hw⟩ := hrel
    by_cases hlt : k < n
    · obtain ⟨hf, b1, o1, rfl, e1⟩ := h1.drewN hw.out k hlt
      obtain ⟨hg, b2, o2, rfl, e2⟩ := h2.drewN hw.out k hlt
      have hd := Gf.dot_lt f g k (fun i hi => (h1 i (by omega)).1)
      have hm := Gf.mul_lt (g k) hf
      have hz : (k : Int) < (n : Int) := by omega
      clear h1 h2
      go_wp2
      go_quiet (first | (go_at_call 15; exact Calls.quiet_of_same ((mul_any _ _ hf hg _).mono fun _ _ x => ⟨x.1, x.2.symm⟩)) | (go_at_call 14; exact Calls.quiet_of_same ((add_any _ _ hd hm _).mono fun _ _ x => ⟨x.1, x.2.symm⟩)))
      go_wp2
      go_roundw
      case rel => exact ⟨k + 1, by omega, rfl, by go_num, hidIt (drewN_more hw.out _)⟩
      case measure => simp [intOf]; omega
    · obtain rfl : k = n := by omega
      go_wp2
      go_ret2
      exact ⟨rfl, hw.out⟩
theorem two_bytes {w : World} {b x y : Nat} (h0 : w.cell? ⟨b, 0, none⟩ = some (.int .u8 x)) (h1 : w.cell? ⟨b, 1, none⟩ = some (.int .u8 y)) (hx : x < 256) (hy : y < 256) : Bytes w (some ⟨b, 0, none⟩) 2 (fun i => if i = 0 then x else y) := by
  intro i hi
  obtain rfl | rfl : i = 0 ∨ i = 1 := by omega
  · exact ⟨hx, b, 0, rfl, h0⟩
  · exact ⟨hy, b, 0, rfl, h1⟩
theorem inv_2 (w : World) : Calls Try.prog 13 #[.int .u8 2] w fun e w' => e = .returned (.tuple #[.int .u8 142, .int .i64 0]) ∧ w = w' := by
  have h := inv_pos 2 (by decide) (by decide) w
  rwa [show Gf.inv 2 = 142 by decide +kernel] at h
theorem mul_lit (a b c : Nat) (ha : a < 256) (hb : b < 256) (h : Gf.mul a b = c) (w : World) : Calls Try.prog 15 #[.int .u8 a, .int .u8 b] w fun e w' => e = .returned (.int .u8 c) ∧ w = w' := by
  subst h; exact mul_any a b ha hb w
theorem exp_lit (n : Int) (c : Nat) (h : Gf.E (Gf.res n) = c) (w : World) : Calls Try.prog 21 #[.int .i64 n] w fun e w' => e = .returned (.int .u8 c) ∧ Below w.heap.size w w' := by
  subst h; exact exp_any n w
theorem dot_lit (a1 a2 : Option Addr) (n c1 c2 : Nat) (f g : Nat → Nat) (c : Nat) (hc : Gf.dot f g n = c) (hn : n ≤ 9223372036854775807) (w : World) (h1 : Bytes w a1 n f) (h2 : Bytes w a2 n g) :
    Calls Try.prog 28 #[.slice a1 n c1, .slice a2 n c2] w fun e w' => e = .returned (.tuple #[.int .u8 c, .int .i64 0]) ∧ ∃ m, w' = w.drewN m := by
  subst hc; exact dot_any a1 a2 n c1 c2 f g hn w h1 h2
theorem awake_any (w : World) :
    Calls Try.prog 11 #[] w fun e w' => e = .returned (.bool true) ∧ Below w.heap.size w w' := by
  go_enter Try.func11, Try.ntmps11
  go_wp2_with (fail)
  refine (inv_2 _).mono ?_
  rintro e w1 ⟨rfl, rfl⟩
  go_wp2_with (fail)
  refine (pow_zero_neg (-1) (by decide) _).mono ?_
  rintro e w1 ⟨rfl, rfl⟩
  go_wp2_with (fail)
  refine (dot_lit _ _ 2 2 2 (fun i => if i = 0 then 2 else 3) (fun i => if i = 0 then 128 else 3) 24 (by decide +kernel) (by decide) _ (two_bytes (by simp) (by simp) (by decide) (by decide)) (two_bytes (by simp) (by simp) (by decide) (by decide))).mono ?_
  rintro e w1 ⟨rfl, m, rfl⟩
  go_wp2_with (fail)
  refine (mul_lit 2 128 29 (by decide) (by decide) (by decide +kernel) _).mono ?_
  rintro e w1 ⟨rfl, rfl⟩
  go_wp2_with (fail)
  refine (mul_lit 3 3 5 (by decide) (by decide) (by decide +kernel) _).mono ?_
  rintro e w1 ⟨rfl, rfl⟩
  go_wp2_with (fail)
  refine (exp_lit (-1) 142 (by decide +kernel) _).mono ?_
  rintro e w1 ⟨rfl, hb⟩
  go_wp2_with (fail)
  go_ret
  refine ⟨rfl, (below_drewN (((Below.refl _ _).alloc (Nat.le_refl _) _).alloc (by simp) _) m).trans (hb.mono (by simp; omega))⟩
end Go.Proofs.Ytjcpcankgimlnaa
