import Derived.Test.YtgkomejckbccdaaDoorRootM
namespace Go.Proofs.YtgkomejckbccdaaDoor
open Go.RowKit
/-- all strings are sums -/
def sumsB (ss : List ByteArray) : Bool := ss.all fun s => s.size == 32
theorem sumsB_all {ss : List ByteArray} : sumsB ss = true ↔ ∀ s ∈ ss, s.size = 32 := by simp [sumsB]
theorem sumsB_getD {ss : List ByteArray} (h : ∀ i, i < ss.length → (ss.getD i ByteArray.empty).size = 32) : sumsB ss = true := by
  rw [sumsB_all]
  intro s hs
  obtain ⟨i, hi, rfl⟩ := List.getElem_of_mem hs
  have := h i hi
  simpa [List.getD, hi] using this
theorem sumsB_bad {ss : List ByteArray} {i : Nat} (hi : i < ss.length) (h : (ss.getD i ByteArray.empty).size ≠ 32) : sumsB ss = false := by
  rw [Bool.eq_false_iff]
  intro h2
  rw [sumsB_all] at h2
  exact h (by have := h2 ss[i] (List.getElem_mem hi); simpa [List.getD, hi] using this)
theorem odd_any (s : ByteArray) (w : World) : Calls Tryd.prog 84 #[.string s] w fun e w' => e = .returned (.bool (decide (s.size ≠ 32))) ∧ w = w' := by
  by_cases h : s.size = 32
  · have hd : decide (s.size ≠ 32) = false := by simp [h]
    have t : ((s.size : Int) != 32) = false := by simp; omega
    rw [hd]
    clear hd h
    go_enter Tryd.func84, Tryd.ntmps84
    go_wp2
    go_ret
    exact ⟨rfl, rfl⟩
  · have hd : decide (s.size ≠ 32) = true := by simp [h]
    have t : ((s.size : Int) != 32) = true := by simp; omega
    rw [hd]
    clear hd h
    go_enter Tryd.func84, Tryd.ntmps84
    go_wp2
    go_ret
    exact ⟨rfl, rfl⟩
theorem odd0 (s : ByteArray) (h : s.size = 32) (w : World) : Calls Tryd.prog 84 #[.string s] w fun e w' => e = .returned (.bool false) ∧ w = w' := by
  have := odd_any s w
  rwa [show decide (s.size ≠ 32) = false by simp [h]] at this
theorem odd1 (s : ByteArray) (h : s.size ≠ 32) (w : World) : Calls Tryd.prog 84 #[.string s] w fun e w' => e = .returned (.bool true) ∧ w = w' := by
  have := odd_any s w
  rwa [show decide (s.size ≠ 32) = true by simp [h]] at this
theorem idxS_any (a : Option Addr) (n cap : Nat) (ss : List ByteArray) (hbig : n ≤ 140737488355328) (w : World) (hR : Hid (RdS w a n cap ss)) :
    Calls Tryd.prog 94 #[.slice a n cap, .func (.func 84) #[] #[]] w fun e w' => (∃ z : Int, e = .returned (.int .i64 z) ∧ (0 ≤ z ↔ sumsB ss = false)) ∧ w = w' := by
  go_enter Tryd.func94, Tryd.ntmps94
  go_wp2
  go_loop [8, 5] (fun i _ => ∃ k : Nat, k ≤ n ∧ i = .int .i64 (k : Int) ∧ Hid (∀ j, j < k → (ss.getD j ByteArray.empty).size = 32)) (fun i _ => n - (intOf i).toNat)
  case atStart => exact ⟨0, by omega, rfl, fun j hj => by omega⟩
  case round =>
    obtain ⟨k, hk, rfl, hall⟩ := hrel
    by_cases hlt : k < n
    · have e1 : (k : Int) < (n : Int) := by omega
      obtain ⟨s, hs⟩ : ∃ s, Hid (ss.getD k ByteArray.empty = s) := ⟨_, rfl⟩
      obtain ⟨b, o, rfl, e2⟩ := hR.out.cell hlt hs.out
      by_cases h32 : s.size = 32
      · have hnext : Hid (∀ j, j < k + 1 → (ss.getD j ByteArray.empty).size = 32) := fun j hj => by
          by_cases hjk : j < k
          · exact hall.out j hjk
          · obtain rfl : j = k := by omega
            rw [hs.out]; exact h32
        have hb := odd0 s h32
        clear hall h32
        go_wp2_with (fail)
        refine (hb _).mono ?_
        rintro e w2 ⟨rfl, rfl⟩
        go_wp2_with (fail)
        go_round
        case rel => exact ⟨k + 1, by omega, by go_num, hnext⟩
        case measure => simp [intOf]; omega
      · have hbad : Hid (sumsB ss = false) := sumsB_bad (i := k) (by have := hR.out.len; omega) (by rw [hs.out]; exact h32)
        have hb := odd1 s h32
        clear hall h32
        go_wp2_with (fail)
        refine (hb _).mono ?_
        rintro e w2 ⟨rfl, rfl⟩
        go_wp2_with (fail)
        go_ret
        exact ⟨⟨k, rfl, fun _ => hbad.out, fun _ => by omega⟩, rfl⟩
    · obtain rfl : k = n := by omega
      have hgood : Hid (sumsB ss = true) := sumsB_getD fun i hi => hall.out i (by have := hR.out.len; omega)
      clear hall
      go_wp2
      go_ret
      exact ⟨⟨-1, rfl, fun h => by omega, fun h => by rw [hgood.out] at h; cases h⟩, rfl⟩
theorem hasS_any (a : Option Addr) (n cap : Nat) (ss : List ByteArray) (hbig : n ≤ 140737488355328) (b : Bool) (hb : Hid (sumsB ss = b)) (w : World) (hR : Hid (RdS w a n cap ss)) :
    Calls Tryd.prog 85 #[.slice a n cap, .func (.func 84) #[] #[]] w fun e w' => e = .returned (.bool (!b)) ∧ w = w' := by
  go_enter Tryd.func85, Tryd.ntmps85
  go_wp2_with (fail)
  refine (idxS_any a n cap ss hbig _ hR).mono ?_
  rintro e w2 ⟨⟨z, rfl, hz⟩, rfl⟩
  rw [hb.out] at hz
  cases b with
  | true =>
    have t : decide (0 ≤ z) = false := by rw [decide_eq_false_iff_not]; intro h; have := hz.1 h; cases this
    clear hz
    go_wp2
    go_ret
    exact ⟨rfl, rfl⟩
  | false =>
    have t : decide (0 ≤ z) = true := by rw [decide_eq_true_iff]; exact hz.2 rfl
    clear hz
    go_wp2
    go_ret
    exact ⟨rfl, rfl⟩
theorem sums_any (a a2 : Option Addr) (n cap n2 cap2 : Nat) (ss ts : List ByteArray) (h1 : n ≤ 140737488355328) (h2 : n2 ≤ 140737488355328) (b c : Bool) (hb : Hid (sumsB ss = b)) (hc : Hid (sumsB ts = c)) (w : World) (hR : Hid (RdS w a n cap ss)) (hT : Hid (RdS w a2 n2 cap2 ts)) :
    Calls Tryd.prog 63 #[.slice a n cap, .slice a2 n2 cap2] w fun e w' => e = .returned (.bool (b && c)) ∧ w = w' := by
  go_enter Tryd.func63, Tryd.ntmps63
  go_wp2_with (fail)
  refine (hasS_any a n cap ss h1 b hb _ hR).mono ?_
  rintro e w2 ⟨rfl, rfl⟩
  cases b with
  | false =>
    clear hb hc hR hT
    go_wp2_with (fail)
    go_ret
    exact ⟨rfl, rfl⟩
  | true =>
    go_wp2_with (fail)
    refine (hasS_any a2 n2 cap2 ts h2 c hc _ hT).mono ?_
    rintro e w2 ⟨rfl, rfl⟩
    go_wp2_with (fail)
    go_ret
    exact ⟨by simp, rfl⟩
end Go.Proofs.YtgkomejckbccdaaDoor
