import Derived.Test.YtcnjcfmgkkghjaaPlLag
import Derived.Test.YtcnjcfmgkkghjaaRefDiv
namespace Go.Proofs.Ytcnjcfmgkkghjaa
open Go.RowKit
/-- the first k elements are different, and the next is not among the first l -/
def DsI (X : List Nat) (k l : Nat) : Prop := ∀ j, j < l → X.getD k 0 ≠ X.getD j 0
set_option maxRecDepth 100000 in
theorem refdistinct_any (a : Option Addr) (n c : Nat) (X : List Nat) (v : Bool) (hn : n = X.length) (hX : ∀ i, X.getD i 0 < 256) (hbig : n ≤ 1000) (h1 : v = true → Dst X n) (h2 : v = false → ¬ Dst X n) (w : World) (h : Bytes w a X) :
    Calls Try.prog 23 #[.slice a n c] w fun e w' => e = .returned (.bool v) ∧ Below w.heap.size w w' := by
  have n2 := hidIt hn
  have x2 := hidIt hX
  have i2 := hidIt h
  have v1 := hidIt h1
  have v2 := hidIt h2
  clear hn hX h h1 h2
  go_enter Try.func23, Try.ntmps23
  go_wp2_with (fail)
  go_loopw [7, 3, 4] (fun i _ _ wr => ∃ k : Nat, k ≤ n ∧ i = .int .i64 k ∧ Hid (Dst X k) ∧ Hid (Below w.heap.size w wr)) (fun i _ _ _ => n - (intOf i).toNat)
  case atStart => exact ⟨0, by omega, rfl, fun i j h1 h2 => by omega, Below.refl _ _⟩
  case round =>
    obtain ⟨k, hk, rfl, hD, hb⟩ := hrel
    by_cases hlt : k < n
    · have t1 : (k : Int) < (n : Int) := by omega
      go_wp2_with (fail)
      go_loopw [4] (fun i wr => ∃ l : Nat, l ≤ k ∧ i = .int .i64 l ∧ Hid (DsI X k l) ∧ Hid (Below w.heap.size w wr)) (fun i _ => k - (intOf i).toNat)
      case atStart => exact ⟨0, by omega, rfl, fun j h => by omega, hb.out⟩
      case round =>
        obtain ⟨l, hl, rfl, hI, hbI⟩ := hrel
        clear hb
        by_cases hlt2 : l < k
        · have t2 : (l : Int) < (k : Int) := by omega
          have t3 : (l : Int) < (n : Int) := by omega
          obtain ⟨x, hx⟩ : ∃ x, Hid (X.getD k 0 = x) := ⟨_, rfl⟩
          obtain ⟨y, hy⟩ : ∃ y, Hid (X.getD l 0 = y) := ⟨_, rfl⟩
          obtain ⟨b, o, rfl, e1⟩ := (i2.out.below hbI.out) k (by have := n2.out; omega)
          have e2 := ip_cell (i2.out.below hbI.out) (k := l) (y := y) (by have := n2.out; omega) hy.out
          rw [hx.out] at e1
          by_cases hne : x = y
          · have t4 : ((x : Int) == (y : Int)) = true := by simp; omega
            have hv : v = false := by
              cases v with
              | false => rfl
              | true => exact absurd (by rw [hx.out, hy.out, hne]) (v1.out rfl l k hlt2 hlt).symm
            subst hv
            go_wp2
            go_quiet (fail)
            have hb3 := hidIt hbI.out
            clear hbI
            go_wp2
            go_ret
            exact ⟨rfl, below_drewN hb3.out _⟩
          · have t4 : ((x : Int) == (y : Int)) = false := by simp; omega
            go_wp2
            go_quiet (fail)
            have hb3 := hidIt hbI.out
            clear hbI
            go_wp2
            go_roundw
            case rel =>
              refine ⟨l + 1, by omega, by go_num, ?_, below_drewN hb3.out _⟩
              intro j hj
              rcases Nat.lt_or_ge j l with h | h
              · exact hI.out j h
              · obtain rfl : j = l := by omega
                rw [hx.out, hy.out]; exact hne
            case measure => simp [intOf]; omega
        · obtain rfl : l = k := by omega
          have hb3 := hidIt hbI.out
          clear hbI
          go_wp2
          go_roundw
          case rel =>
            refine ⟨l + 1, by omega, by go_num, ?_, hb3.out⟩
            intro i j hij hj
            rcases Nat.lt_or_ge j l with h | h
            · exact hD.out i j hij h
            · obtain rfl : j = l := by omega
              exact (hI.out i hij).symm
          case measure => simp [intOf]; omega
    · obtain rfl : k = n := by omega
      have hv : v = true := by
        cases v with
        | true => rfl
        | false => exact absurd hD.out (v2.out rfl)
      subst hv
      go_wp2
      go_ret
      exact ⟨rfl, hb.out⟩
end Go.Proofs.Ytcnjcfmgkkghjaa
