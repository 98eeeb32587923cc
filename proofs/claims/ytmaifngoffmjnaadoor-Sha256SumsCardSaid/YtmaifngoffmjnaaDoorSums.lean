import Derived.Test.YtmaifngoffmjnaaDoorRefSum
namespace Go.Proofs.YtmaifngoffmjnaaDoor
open Go.RowKit
set_option maxRecDepth 100000 in
set_option maxHeartbeats 2000000 in
theorem sums_walk (a0 : Option Addr) (len0 cap0 : Nat) (xs : List Nat) (w : World) (hL : Laid w) (h0 : RowB w a0 len0 cap0 xs) :
    Calls Tryd.prog 3 #[.slice a0 len0 cap0] w fun e w' => e = .returned (.bool true) ∧ Below w.heap.size w w' := by
  obtain rfl := h0.len
  by_cases hbig : 300 < xs.length
  · have t0 : (300 : Int) < (xs.length : Int) := by omega
    go_enter Tryd.func3, Tryd.ntmps3
    go_wp2_with (fail)
    refine (awake_any _ hL).mono ?_
    rintro e w1 ⟨rfl, hb1⟩
    have L1 := hL.below hb1 hL.two
    go_wp2_with (fail)
    refine (awake_any _ L1).mono ?_
    rintro e w2 ⟨rfl, hb2⟩
    go_wp2_with (fail)
    go_ret
    exact ⟨rfl, below_then hb1 hb2⟩
  · have t0 : ¬ (300 : Int) < (xs.length : Int) := by omega
    have b0 : xs.length ≤ 300 := by omega
    have hlc := h0.lecap
    have hx0 := h0.lt
    have hnil := h0.nil
    have hby := h0.bytes
    clear hbig h0
    go_enter Tryd.func3, Tryd.ntmps3
    go_wp2_with (fail)
    refine (awake_any _ hL).mono ?_
    rintro e w1 ⟨rfl, hb1⟩
    have L1 := hL.below hb1 hL.two
    have y1 := hby.below hb1
    clear t0
    go_wp2_with (fail)
    refine (sum_any a0 cap0 xs hx0 (by omega) hlc _ L1 y1 (fun h x hx => y1.blk h x hx)).mono ?_
    rintro e w2 ⟨rfl, hb2⟩
    have H2 := below_then hb1 hb2
    obtain ⟨st, hst⟩ : ∃ st, Hid (str (Sh.sum xs) = st) := ⟨_, rfl⟩
    rw [hst.out]
    have v1 : (st.toList == st.toList) = true := by simp
    go_wp2_with (fail)
    refine (refsum_any a0 cap0 xs hx0 b0 _ (hby.below H2) hnil).mono ?_
    rintro e w3 ⟨rfl, hb3⟩
    rw [hst.out]
    go_wp2_with (fail)
    go_ret
    exact ⟨rfl, below_then H2 hb3⟩
end Go.Proofs.YtmaifngoffmjnaaDoor
