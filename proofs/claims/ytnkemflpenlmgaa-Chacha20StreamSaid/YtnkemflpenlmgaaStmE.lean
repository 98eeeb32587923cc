import Derived.Test.YtnkemflpenlmgaaStm
import Derived.StillTailTactics
namespace Go.Proofs.Ytnkemflpenlmgaa
open Go.RowKit
set_option maxRecDepth 100000 in
theorem stream_err (key nonce : ByteArray) (o n : Int) (h : ¬ (key.size = 32 ∧ nonce.size = 12) ∨ o < 0 ∨ n < 0) (w : World) :
    Calls Try.prog 17 #[.string key, .string nonce, .int .i64 o, .int .i64 n] w fun e w' => e = .returned (.tuple #[.slice none 0 0, .int .i64 1]) ∧ w = w' := by
  by_cases hfit : key.size = 32 ∧ nonce.size = 12
  · have hf := fun W => fit_ok key nonce hfit.1 hfit.2 W
    by_cases ho : o < 0
    · clear h hfit
      go_enter Try.func17, Try.ntmps17
      go_wp2_with (fail)
      refine (hf _).mono ?_
      rintro e w1 ⟨rfl, rfl⟩
      go_wp2_with (fail)
      go_ret2
      exact ⟨rfl, rfl⟩
    · have hn : n < 0 := by rcases h with h | h | h; exact absurd hfit h; exact absurd h ho; exact h
      have ho2 : decide (o < 0) = false := by simp; omega
      clear h hfit
      go_enter Try.func17, Try.ntmps17
      go_wp2_with (fail)
      refine (hf _).mono ?_
      rintro e w1 ⟨rfl, rfl⟩
      go_wp2_with (fail)
      go_ret2
      exact ⟨rfl, rfl⟩
  · have hf := fun W => fit_no key nonce hfit W
    clear h hfit
    go_enter Try.func17, Try.ntmps17
    go_wp2_with (fail)
    refine (hf _).mono ?_
    rintro e w1 ⟨rfl, rfl⟩
    go_wp2_with (fail)
    go_ret2
    exact ⟨rfl, rfl⟩
set_option maxRecDepth 100000 in
theorem stream_large (key nonce : ByteArray) (o n : Int) (hk : key.size = 32) (hn : nonce.size = 12) (ho : 0 ≤ o) (hn0 : 0 ≤ n) (hbn : n < 9223372036854775808) (h : 1048576 < n ∨ 274877906944 - n < o) (w : World) :
    Calls Try.prog 17 #[.string key, .string nonce, .int .i64 o, .int .i64 n] w fun e w' => e = .returned (.tuple #[.slice none 0 0, .int .i64 2]) ∧ w = w' := by
  have hf := fun W => fit_ok key nonce hk hn W
  have o0 : decide (o < 0) = false := by simp; omega
  have n0 : decide (n < 0) = false := by simp; omega
  clear hk hn
  by_cases h1 : 1048576 < n
  · clear h
    go_enter Try.func17, Try.ntmps17
    go_wp2_with (fail)
    refine (hf _).mono ?_
    rintro e w1 ⟨rfl, rfl⟩
    go_wp2_with (fail)
    go_ret2
    exact ⟨rfl, rfl⟩
  · have h2 : 274877906944 - n < o := by omega
    have h3 : decide (1048576 < n) = false := by simp; omega
    have h4 : IntKind.i64.wrap (274877906944 - n) = 274877906944 - n := IntWalk.i64_in _ (by omega)
    clear h
    go_enter Try.func17, Try.ntmps17
    go_wp2_with (fail)
    refine (hf _).mono ?_
    rintro e w1 ⟨rfl, rfl⟩
    go_wp2_with (fail)
    go_ret2
    exact ⟨rfl, rfl⟩
end Go.Proofs.Ytnkemflpenlmgaa
