import Derived.Test.YtcnjcfmgkkghjaaAwk
namespace Go.Proofs.Ytcnjcfmgkkghjaa
open Go.RowKit
theorem many_any (g n c : Nat) (ad : Nat → Option Addr) (ln cp : Nat → Nat) (v : Bool) (hT : v = true → ∃ j, j < n ∧ 30 < ln j) (hF : v = false → ∀ j, j < n → ln j ≤ 30) (hn : n ≤ 1000) (w : World) (h : ∀ j, j < n → w.cell? ⟨g, j, none⟩ = some (.slice (ad j) (ln j) (cp j))) :
    Calls Try.prog 25 #[.slice (some ⟨g, 0, none⟩) n c] w fun e w' => e = .returned (.bool v) ∧ w = w' := by
  have hT' := hidIt hT
  have hF' := hidIt hF
  have h' := hidIt h
  clear hT hF h
  go_enter Try.func25, Try.ntmps25
  go_wp2
  go_loop [7, 4] (fun i _ => ∃ k : Nat, k ≤ n ∧ i = .int .i64 k ∧ Hid (∀ j, j < k → ln j ≤ 30)) (fun i _ => n - (intOf i).toNat)
  case atStart => exact ⟨0, by omega, rfl, fun j hj => absurd hj (Nat.not_lt_zero _)⟩
  case round =>
    obtain ⟨k, hk, rfl, hall⟩ := hrel
    by_cases hlt : k < n
    · have e1 := h'.out k hlt
      obtain ⟨l, hl⟩ : ∃ l, Hid (ln k = l) := ⟨_, rfl⟩
      rw [hl.out] at e1
      have hlt2 : (k : Int) < (n : Int) := by omega
      by_cases hbig : 30 < l
      · have hv : v = true := by
          cases v with
          | true => rfl
          | false => have := hF'.out rfl k hlt; have := hl.out; omega
        subst hv
        have hb2 : (30 : Int) < (l : Int) := by omega
        go_wp2
        go_ret
        exact ⟨rfl, rfl⟩
      · have hb2 : (l : Int) ≤ 30 := by omega
        go_wp2
        go_round
        case rel => exact ⟨k + 1, by omega, by go_num, fun j hj => by
          rcases Nat.lt_or_ge j k with h1 | h1
          · exact hall.out j h1
          · obtain rfl : j = k := by omega
            rw [hl.out]; omega⟩
        case measure => simp [intOf]; omega
    · obtain rfl : k = n := by omega
      have hv : v = false := by
        cases v with
        | false => rfl
        | true => obtain ⟨j, h1, h2⟩ := hT'.out rfl; have := hall.out j h1; omega
      subst hv
      go_wp2
      go_ret
      exact ⟨rfl, rfl⟩
/-- the product, the empty list for the zero polynomial -/
def timesT (xs ys : List Nat) : List Nat := if Pl.d1 xs = 0 ∨ Pl.d1 ys = 0 then [] else times xs ys
theorem timesT_co (xs ys : List Nat) (j : Nat) : Pl.co (timesT xs ys) j = Pl.cv (Pl.co xs) (Pl.co ys) j := by
  unfold timesT
  split
  · rename_i h
    rw [Pl.co_out (Nat.zero_le _)]
    refine (Pl.S_zero (fun i _ => ?_)).symm
    rcases h with h | h
    · rw [Pl.d1_zero xs i (by omega), Gf.zero_mul]
    · rw [Pl.d1_zero ys _ (by omega), Gf.mul_zero]
  · rename_i h
    have e : Pl.cv (Pl.co (Pl.trim xs)) (Pl.co (Pl.trim ys)) j = Pl.cv (Pl.co xs) (Pl.co ys) j := Pl.S_congr (fun i _ => by rw [Pl.trim_co, Pl.trim_co])
    unfold times
    rw [Pl.fn_co]
    split
    · exact e
    · exact (Pl.cv_zero (fun i hi => Pl.d1_zero xs i hi) (fun i hi => Pl.d1_zero ys i hi) j (by omega)).symm
theorem timesT_lt {xs ys : List Nat} (hx : ∀ i, xs.getD i 0 < 256) (i : Nat) : (timesT xs ys).getD i 0 < 256 := by
  have := timesT_co xs ys i
  show Pl.co _ _ < 256
  rw [this]
  exact Pl.cv_lt hx i
theorem timesT_len (xs ys : List Nat) : (timesT xs ys).length ≤ Pl.d1 xs + Pl.d1 ys := by
  unfold timesT
  split
  · exact Nat.zero_le _
  · unfold times; rw [Pl.fn_len]; omega
theorem mulT_any (a1 a2 : Option Addr) (n1 n2 c1 c2 : Nat) (xs ys : List Nat) (hn : n1 = xs.length) (hm : n2 = ys.length) (hx : ∀ i, xs.getD i 0 < 256) (hy : ∀ i, ys.getD i 0 < 256) (hb1 : n1 ≤ 500) (hb2 : n2 ≤ 500) (w : World) (h1 : Bytes w a1 xs) (h2 : Bytes w a2 ys) :
    Calls Try.prog 33 #[.slice a1 n1 c1, .slice a2 n2 c2] w fun e w' => (∃ a m c, e = .returned (.tuple #[.slice a m c, .int .i64 0]) ∧ m = (timesT xs ys).length ∧ Bytes w' a (timesT xs ys)) ∧ Below w.heap.size w w' := by
  have l1 := Pl.d1_le xs
  have l2 := Pl.d1_le ys
  by_cases hz1 : Pl.d1 xs = 0
  · have e : timesT xs ys = [] := by unfold timesT; rw [if_pos (.inl hz1)]
    rw [e]
    exact (mulz1_any a1 a2 n1 n2 c1 c2 xs ys hn hm hx hy (by omega) (by omega) hz1 w h1 h2).mono fun _ _ ⟨h, k⟩ => ⟨⟨none, 0, 0, h, rfl, fun i hi => absurd hi (Nat.not_lt_zero _)⟩, k⟩
  · by_cases hz2 : Pl.d1 ys = 0
    · have e : timesT xs ys = [] := by unfold timesT; rw [if_pos (.inr hz2)]
      rw [e]
      exact (mulz2_any a1 a2 n1 n2 c1 c2 xs ys hn hm hx hy (by omega) (by omega) (by omega) hz2 w h1 h2).mono fun _ _ ⟨h, k⟩ => ⟨⟨none, 0, 0, h, rfl, fun i hi => absurd hi (Nat.not_lt_zero _)⟩, k⟩
    · have e : timesT xs ys = times xs ys := by unfold timesT; rw [if_neg (by omega)]
      rw [e]
      refine (mul2_any a1 a2 n1 n2 c1 c2 xs ys hn hm hx hy (by omega) (by omega) (by omega) (by omega) (by omega) w h1 h2).mono fun e w' ⟨⟨v, h, k⟩, l⟩ => ?_
      obtain ⟨g, rfl, _, _, hb⟩ := k.at _ rfl
      exact ⟨⟨_, _, _, h, rfl, hb⟩, l⟩
theorem lawmul_any (a1 a2 : Option Addr) (n1 n2 c1 c2 : Nat) (xs ys : List Nat) (hn : n1 = xs.length) (hm : n2 = ys.length) (hx : ∀ i, xs.getD i 0 < 256) (hy : ∀ i, ys.getD i 0 < 256) (hb1 : n1 ≤ 500) (hb2 : n2 ≤ 500) (w : World) (h1 : Bytes w a1 xs) (h2 : Bytes w a2 ys) :
    Calls Try.prog 31 #[.slice a1 n1 c1, .slice a2 n2 c2] w fun e w' => (∃ a m c, e = .returned (.slice a m c) ∧ m = (timesT xs ys).length ∧ Bytes w' a (timesT xs ys)) ∧ Below w.heap.size w w' := by
  have n1' := hidIt hn
  have n2' := hidIt hm
  have x2 := hidIt hx
  have y2 := hidIt hy
  have i1 := hidIt h1
  have i2 := hidIt h2
  clear hn hm hx hy h1 h2
  go_enter Try.func31, Try.ntmps31
  go_wp2_with (fail)
  refine (mulT_any _ _ _ _ _ _ xs ys n1'.out n2'.out x2.out y2.out hb1 hb2 _ i1.out i2.out).mono ?_
  rintro e w' ⟨⟨a, m, c, rfl, hm, hb⟩, hbel⟩
  have hm' := hidIt hm
  have hb' := hidIt hb
  have hbel' := hidIt hbel
  clear hm hb hbel
  go_wp2
  go_ret
  exact ⟨⟨_, _, _, rfl, hm'.out, hb'.out⟩, hbel'.out⟩
end Go.Proofs.Ytcnjcfmgkkghjaa
