import Derived.Test.YtgkomejckbccdaaDoorClimb
namespace Go.Proofs.YtgkomejckbccdaaDoor
open Go.RowKit
/-- what Verify answers -/
def ver (x : ByteArray) (i n : Int) (P : List ByteArray) (z : ByteArray) : Bool :=
  if 0 ≤ i ∧ i < n then (sumsB P && sumsB [x, z]) && ((Mk.up x P x P.length i.toNat n.toNat).2 && decide ((Mk.up x P x P.length i.toNat n.toNat).1 = z)) else false
theorem str_beq (a b : ByteArray) : (a.toList == b.toList) = decide (a = b) := by
  by_cases h : a = b
  · subst h; simp
  · have : ¬ a.toList = b.toList := fun e => h (by
      have h2 : str (ofStr a) = str (ofStr b) := by
        have : ofStr a = ofStr b := by
          unfold ofStr
          rw [ByteArray.toList_eq] at e
          rw [ByteArray.toList_eq] at e
          rw [e]
        rw [this]
      rwa [str_ofStr, str_ofStr] at h2)
    simp [h, this]
theorem rds_pair (w : World) (s t : ByteArray) : RdS (w.alloc (.cells #[.string s, .string t] 9)) (some ⟨w.heap.size, 0, none⟩) 2 2 [s, t] := ⟨rfl, Nat.le_refl _, strs_two w s t⟩
theorem rds_one (w : World) (s : ByteArray) : RdS (w.alloc (.cells #[.string s] 9)) (some ⟨w.heap.size, 0, none⟩) 1 1 [s] := ⟨rfl, Nat.le_refl _, strs_one w s⟩
set_option maxRecDepth 100000 in
theorem verify_any (a : Option Addr) (m cap : Nat) (P : List ByteArray) (x z : ByteArray) (i n : Int) (v : Bool) (hv : Hid (ver x i n P z = v)) (hP : Sm P) (hx : x.size ≤ 1000000) (hbig : m ≤ 1000000000) (hi : -9223372036854775808 ≤ i ∧ i ≤ 9223372036854775807) (hn : -9223372036854775808 ≤ n ∧ n ≤ 9223372036854775807) (w : World) (hL : Laid w) (hR : Hid (RdS w a m cap P)) :
    Calls Tryd.prog 27 #[.string x, .int .i64 i, .int .i64 n, .slice a m cap, .string z] w fun e w' => e = .returned (.bool v) ∧ Below w.heap.size w w' := by
  by_cases h0 : i < 0
  · have hv2 : v = false := by rw [← hv.out, ver, if_neg (by omega)]
    subst hv2
    clear hR
    go_enter Tryd.func27, Tryd.ntmps27
    go_wp2_with (fail)
    go_ret
    exact ⟨rfl, Below.refl _ _⟩
  by_cases h1 : n ≤ i
  · have hv2 : v = false := by rw [← hv.out, ver, if_neg (by omega)]
    subst hv2
    clear hR
    go_enter Tryd.func27, Tryd.ntmps27
    go_wp2_with (fail)
    go_ret
    exact ⟨rfl, Below.refl _ _⟩
  obtain ⟨i', rfl⟩ := Int.eq_ofNat_of_zero_le (show 0 ≤ i by omega)
  obtain ⟨n', rfl⟩ := Int.eq_ofNat_of_zero_le (show 0 ≤ n by omega)
  have hv2 := hv.out
  rw [ver, if_pos (by omega), Int.toNat_natCast, Int.toNat_natCast] at hv2
  clear hv
  obtain ⟨b, hb⟩ : ∃ b, Hid (sumsB P = b) := ⟨_, rfl⟩
  obtain ⟨c, hc⟩ : ∃ c, Hid (sumsB [x, z] = c) := ⟨_, rfl⟩
  have hbA : Hid (Below w.heap.size w (w.alloc (.cells #[.string x, .string z] 9))) := (Below.refl _ _).alloc (Nat.le_refl _) _
  have hp := hidIt (rds_pair w x z)
  have hR1 := hidIt (hR.out.below hbA.out)
  obtain ⟨⟨r, ok⟩, hu⟩ : ∃ z, Hid (Mk.up x P x P.length i' n' = z) := ⟨_, rfl⟩
  rw [hb.out, hc.out, hu.out, ← str_beq] at hv2
  have hml := hidIt hR.out.len
  rw [← hml.out] at hu
  have hv3 := hidIt hv2
  clear hv2 hR
  have g1 : ¬ (i' : Int) < 0 := h0
  have g2 : ¬ (n' : Int) ≤ (i' : Int) := h1
  cases hbc : (b && c) with
  | false =>
    rw [hbc] at hv3
    have hv4 : v = false := by rw [← hv3.out]; rfl
    subst hv4
    go_enter Tryd.func27, Tryd.ntmps27
    go_wp2_with (fail)
    refine (sums_any a _ m cap 2 2 P [x, z] (by omega) (by decide) b c hb hc _ hR1 hp).mono ?_
    rintro e w1 ⟨rfl, rfl⟩
    rw [hbc]
    clear hbc
    go_wp2_with (fail)
    go_ret
    exact ⟨rfl, hbA.out⟩
  | true =>
    rw [hbc] at hv3
    go_enter Tryd.func27, Tryd.ntmps27
    go_wp2_with (fail)
    refine (sums_any a _ m cap 2 2 P [x, z] (by omega) (by decide) b c hb hc _ hR1 hp).mono ?_
    rintro e w1 ⟨rfl, rfl⟩
    rw [hbc]
    clear hbc hb hc hp
    go_wp2_with (fail)
    refine (climb_rec a m cap P x hP hx hbig m i' n' r ok _ hu (by omega) (by omega) (by omega) (Nat.le_refl _) (hL.below hbA.out hL.two) hR1).mono ?_
    rintro e w1 ⟨rfl, hb1⟩
    have hb2 := hidIt (below_then hbA.out hb1)
    clear hb1 hbA hR1 hu
    cases ok with
    | false =>
      have hv4 : v = false := by rw [← hv3.out]; rfl
      subst hv4
      clear hv3
      go_wp2_with (fail)
      go_ret
      exact ⟨rfl, hb2.out⟩
    | true =>
      obtain ⟨q, hq⟩ : ∃ q, (r.toList == z.toList) = q := ⟨_, rfl⟩
      have hv4 : v = q := by rw [← hv3.out, hq]; rfl
      subst hv4
      clear hv3
      go_wp2_with (fail)
      go_ret
      exact ⟨rfl, hb2.out⟩
end Go.Proofs.YtgkomejckbccdaaDoor
