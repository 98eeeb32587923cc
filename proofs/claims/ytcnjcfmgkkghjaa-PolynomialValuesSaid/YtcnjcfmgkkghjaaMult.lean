import Derived.Test.YtcnjcfmgkkghjaaPlDer
import Derived.Test.YtcnjcfmgkkghjaaShift
namespace Go.Proofs.Ytcnjcfmgkkghjaa
open Go.RowKit
theorem nonzero_any (x : Nat) (w : World) :
    Calls Try.prog 37 #[.int .u8 (x : Int)] w fun e w' => e = .returned (.bool (decide (x ≠ 0))) ∧ w = w' := by
  by_cases h : x = 0
  · subst h
    go_enter Try.func37, Try.ntmps37
    go_wp2
    go_ret
    exact ⟨rfl, rfl⟩
  · have hne : ((x : Int) != 0) = true := by simp; omega
    have hd : decide (x ≠ 0) = true := decide_eq_true h
    have hd' := hidIt hd
    have h2 : ¬ (x : Int) = 0 := by omega
    rw [hd]
    clear hd h
    go_enter Try.func37, Try.ntmps37
    go_wp2
    go_ret
    exact ⟨rfl, rfl⟩
theorem nonz0 (w : World) : Calls Try.prog 37 #[.int .u8 0] w fun e w' => e = .returned (.bool false) ∧ w = w' := nonzero_any 0 w
theorem nonz1 (x : Nat) (h : x ≠ 0) (w : World) : Calls Try.prog 37 #[.int .u8 (x : Int)] w fun e w' => e = .returned (.bool true) ∧ w = w' := by
  have := nonzero_any x w
  rwa [decide_eq_true h] at this
theorem index_any (a : Option Addr) (n c m : Nat) (xs : List Nat) (hn : n = xs.length) (hm : m < n) (hbig : n ≤ 1000) (low : ∀ i, i < m → Pl.co xs i = 0) (top : Pl.co xs m ≠ 0) (w : World) (h : Bytes w a xs) :
    Calls Try.prog 35 #[.slice a n c, .func (.func 37) #[] #[]] w fun e w' => e = .returned (.int .i64 (m : Int)) ∧ w = w' := by
  have n2 := hidIt hn
  have i2 := hidIt h
  have l2 := hidIt low
  have t2 := hidIt top
  clear hn h low top
  go_enter Try.func35, Try.ntmps35
  go_wp2
  go_loop [8, 5] (fun i _ => ∃ k : Nat, k ≤ m ∧ i = .int .i64 (k : Int)) (fun i _ => m - (intOf i).toNat)
  case atStart => exact ⟨0, by omega, rfl⟩
  case round =>
    obtain ⟨k, hk, rfl⟩ := hrel
    have e1 : (k : Int) < (n : Int) := by omega
    obtain ⟨b, o, rfl, e2⟩ := i2.out k (by have := n2.out; omega)
    obtain ⟨x, hx⟩ : ∃ x, Hid (xs.getD k 0 = x) := ⟨_, rfl⟩
    rw [hx.out] at e2
    by_cases hlt : k < m
    · have x0 : x = 0 := by rw [← hx.out]; exact l2.out k hlt
      subst x0
      go_wp2_with (fail)
      refine (nonz0 _).mono ?_
      rintro e w2 ⟨rfl, rfl⟩
      go_wp2_with (fail)
      go_round
      case rel => exact ⟨k + 1, by omega, by go_num⟩
      case measure => simp [intOf]; omega
    · obtain rfl : k = m := by omega
      have x0 : x ≠ 0 := by rw [← hx.out]; exact t2.out
      go_wp2_with (fail)
      refine (nonz1 x x0 _).mono ?_
      rintro e w2 ⟨rfl, rfl⟩
      go_wp2_with (fail)
      go_ret
      exact ⟨rfl, rfl⟩
set_option maxRecDepth 100000 in
theorem mult_any (a : Option Addr) (n c r : Nat) (xs : List Nat) (hn : n = xs.length) (hx : ∀ i, xs.getD i 0 < 256) (hr : r < 256) (hbig : n ≤ 64) (h0 : 0 < Pl.d1 xs) (w : World) (h : Bytes w a xs) :
    Calls Try.prog 12 #[.slice a n c, .int .u8 r] w fun e w' => (∃ m : Nat, e = .returned (.tuple #[.int .i64 (m : Int), .int .i64 0]) ∧ m ≤ 64 ∧ ∃ T, MultIs xs r m T) ∧ Below w.heap.size w w' := by
  have n2 := hidIt hn
  have x2 := hidIt hx
  have i2 := hidIt h
  have d2 := hidIt h0
  have nb := hidIt hbig
  have r2 := hidIt hr
  obtain ⟨d, hd⟩ : ∃ d : Int, Hid ((Pl.d1 xs : Int) - 1 = d) := ⟨_, rfl⟩
  have hd0 : ¬ d < 0 := by have := hd.out; omega
  clear hn hx h h0 hr hbig
  go_enter Try.func12, Try.ntmps12
  go_wp2_with (fail)
  refine (degree_any a n c xs n2.out x2.out (by have := nb.out; omega) _ i2.out).mono ?_
  rintro e w1 ⟨rfl, rfl⟩
  rw [hd.out]
  go_wp2_with (fail)
  refine (shifted_any a n c r xs n2.out x2.out r2.out nb.out _ i2.out).mono ?_
  rintro e w1 ⟨⟨v, j, rfl, hj, hm⟩, hb⟩
  obtain ⟨m, hml, hM⟩ := mult_is (j := j) r2.out x2.out (by rw [← n2.out]; exact nb.out) d2.out hj
  obtain ⟨T, hT⟩ : ∃ T, Hid (shL r (Pl.trim xs) j = T) := ⟨_, rfl⟩
  rw [hT.out] at hm hml hM
  obtain ⟨l, hl⟩ : ∃ l, Hid (T.length = l) := ⟨_, rfl⟩
  obtain ⟨g, rfl, _, _, hby⟩ := hm.at l hl.out
  have hM2 := hidIt hM
  have hby2 := hidIt hby
  have hb2 := hidIt hb
  have hlb : l ≤ 1000 := by have := hM.len; have := hl.out; omega
  have hml2 : m < l := by rw [← hl.out]; exact hml
  have hm64 : Hid (m ≤ 64) := by have := hM.len; have := hl.out; show _ ≤ _; omega
  clear hm hby hb hM hj hml
  go_wp2_with (fail)
  refine (index_any _ l l m T hl.out.symm hml2 hlb hM2.out.low hM2.out.top _ hby2.out).mono ?_
  rintro e w2 ⟨rfl, rfl⟩
  go_wp2_with (fail)
  go_ret2
  exact ⟨⟨m, rfl, hm64.out, T, hM2.out⟩, hb2.out⟩
end Go.Proofs.Ytcnjcfmgkkghjaa
