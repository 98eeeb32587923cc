import Derived.Test.YtlpggkdmjmlpkaaRf0
namespace Go.Proofs.Ytlpggkdmjmlpkaa
open Go.RowKit
set_option maxRecDepth 100000 in
theorem numbers_any (n z : Int) (w : World) :
    Calls Try.prog 12 #[.int .i64 n, .int .i64 z] w fun e w' => e = .returned (.bool (decide ((1 ≤ n ∧ n ≤ 65536) ∧ 1 ≤ z ∧ z ≤ 4096))) ∧ w = w' := by
  obtain ⟨r, hr⟩ : ∃ r, Hid (decide ((1 ≤ n ∧ n ≤ 65536) ∧ 1 ≤ z ∧ z ≤ 4096) = r) := ⟨_, rfl⟩
  rw [hr.out]
  have ht : ((1 ≤ n ∧ n ≤ 65536) ∧ 1 ≤ z ∧ z ≤ 4096) → r = true := fun h => by rw [← hr.out]; exact decide_eq_true h
  have hf : ¬ ((1 ≤ n ∧ n ≤ 65536) ∧ 1 ≤ z ∧ z ≤ 4096) → r = false := fun h => by rw [← hr.out]; exact decide_eq_false h
  replace ht := hidIt ht
  replace hf := hidIt hf
  by_cases h1 : n ≥ 1
  · by_cases h2 : n ≤ 65536
    · by_cases h3 : z ≥ 1
      · by_cases h4 : z ≤ 4096
        · go_enter Try.func12, Try.ntmps12
          go_wp2
          go_ret
          exact ⟨by rw [ht.out (by omega)]; rfl, rfl⟩
        · go_enter Try.func12, Try.ntmps12
          go_wp2
          go_ret
          exact ⟨by rw [hf.out (by omega)]; rfl, rfl⟩
      · go_enter Try.func12, Try.ntmps12
        go_wp2
        go_ret
        exact ⟨by rw [hf.out (by omega)]; rfl, rfl⟩
    · go_enter Try.func12, Try.ntmps12
      go_wp2
      go_ret
      exact ⟨by rw [hf.out (by omega)]; rfl, rfl⟩
  · go_enter Try.func12, Try.ntmps12
    go_wp2
    go_ret
    exact ⟨by rw [hf.out (by omega)]; rfl, rfl⟩
/-- the durable sectors of a new reference disk as a row of slices -/
theorem RN.sl2 {w w' : World} {g : Nat} {dv : Value} {Q : Nat → Nat} {z k : Nat} (h : RN w w' g dv Q z k) : ∃ a c, dv = .slice a k c ∧ Sl2 w' a k (fun _ => List.replicate z 0) := by
  obtain ⟨a, c, hv, hc, hcell⟩ := own_cells h.row
  refine ⟨a, c, hv, fun i hi => ?_⟩
  obtain ⟨b, e1, _, e3, _⟩ := hcell i _ hi (rcl_get Q _ z k i hi)
  refine ⟨b, 0, some ⟨Q i, 0, none⟩, z, z, e1, by rw [Nat.zero_add]; exact e3, (h.sec i hi).1.bytes, List.length_replicate.symm, fun x hx => by rw [List.eq_of_mem_replicate hx]; decide⟩
set_option maxRecDepth 100000 in
set_option maxHeartbeats 4000000 in
theorem dnew_walk (n z : Int) (w : World) (_ : (Lit.int .i64 n).wf = true) (_ : (Lit.int .i64 z).wf = true) :
    Calls Try.prog 3 #[.int .i64 n, .int .i64 z] w fun e w' => e = .returned (.bool true) ∧ Below w.heap.size w w' := by
  go_enter Try.func3, Try.ntmps3
  go_wp2_with (fail)
  refine (awake_any _).mono ?_
  rintro e w1 ⟨rfl, hb1⟩
  have H1 := hidIt hb1
  clear hb1
  go_wp2_with (fail)
  refine (numbers_any n z w1).mono ?_
  rintro e w2 ⟨rfl, rfl⟩
  by_cases hok : (1 ≤ n ∧ n ≤ 65536) ∧ 1 ≤ z ∧ z ≤ 4096
  · rw [decide_eq_true hok]
    by_cases h1 : n > 100
    · clear hok
      go_wp2_with (fail)
      go_ret
      exact ⟨rfl, H1.out⟩
    · by_cases h2 : z > 100
      · clear hok
        go_wp2_with (fail)
        go_ret
        exact ⟨rfl, H1.out⟩
      · obtain ⟨N, rfl⟩ : ∃ N : Nat, n = (N : Int) := ⟨n.toNat, by omega⟩
        obtain ⟨Z, rfl⟩ : ∃ Z : Nat, z = (Z : Int) := ⟨z.toNat, by omega⟩
        have hN : Hid (1 ≤ N ∧ N ≤ 100 ∧ 1 ≤ Z ∧ Z ≤ 100) := by show _ ∧ _; omega
        have dN := hidIt (new_any (N : Int) (Z : Int) w1)
        have dM := hidIt (numbers_any (N : Int) (Z : Int))
        rw [decide_eq_true hok] at dM
        replace hok := hidIt hok
        go_wp2_with (fail)
        refine dN.out.mono ?_
        rintro e w2 hR
        unfold NewR at hR
        rw [if_pos hok.out] at hR
        obtain ⟨g, S, rfl, hD, hS, hb2⟩ := hR
        simp only [Int.toNat_natCast] at hD
        have hD2 := hidIt hD
        have H2 := hidIt (below_then H1.out hb2)
        clear hD hS hb2 dN
        go_wp2_with (fail)
        refine (dM.out _).mono ?_
        rintro e w3 ⟨rfl, rfl⟩
        clear dM
        have dS := hidIt (sectors_any g S (Dsk.fresh N Z) w2 hD2)
        have dZ := hidIt (size_any g S (Dsk.fresh N Z) w2 hD2)
        have dD := hidIt (down_any g S (Dsk.fresh N Z) w2 hD2)
        have dP := hidIt (pending_any g S (Dsk.fresh N Z) w2 hD2)
        have dI := hidIt (image_any g S (Dsk.fresh N Z) w2 hD2)
        go_wp2_with (fail)
        refine dS.out.mono ?_
        rintro e w3 ⟨rfl, rfl⟩
        clear dS
        simp only [Dsk.fresh]
        go_wp2_with (fail)
        refine dZ.out.mono ?_
        rintro e w3 ⟨rfl, rfl⟩
        clear dZ
        simp only [Dsk.fresh]
        go_wp2_with (fail)
        refine dD.out.mono ?_
        rintro e w3 ⟨rfl, rfl⟩
        clear dD
        simp only [Dsk.fresh]
        go_wp2_with (fail)
        refine dP.out.mono ?_
        rintro e w3 ⟨rfl, rfl⟩
        clear dP
        simp only [Dsk.fresh]
        go_wp2_with (fail)
        refine dI.out.mono ?_
        rintro e w4 ⟨R, q, rfl, hI, hb4⟩
        have hI4 : Hid (Img w4 w2.heap.size R q N Z (fun _ => List.replicate Z 0)) := hI
        have H4 := hidIt (below_then H2.out hb4)
        clear hI hb4 dI
        simp only [Dsk.fresh]
        go_wp2_with (fail)
        refine (refnew_any N Z (by have := hN.out; omega) (by have := hN.out; omega) w4).mono ?_
        rintro e w5 ⟨g5, dv, Q, rfl, hR⟩
        obtain ⟨a5, c5, rfl, hs5⟩ := hR.sl2
        have f5 := (hR.blk.cell 1).trans (show _ = some (Value.slice a5 N c5) from rfl)
        have hI5 := hI4.out.below hR.bel
        have dA := hidIt (sameAll_any (some ⟨R, 0, none⟩) a5 N N N c5 (fun _ => List.replicate Z 0) (fun _ => List.replicate Z 0) w5 (hI5.sl2 (fun i hi => List.length_replicate) (fun i hi x hx => by rw [List.eq_of_mem_replicate hx]; decide)) hs5 (by have := hN.out; omega) true ⟨fun _ => ⟨rfl, fun _ _ => rfl⟩, fun _ => rfl⟩)
        have H5 := hidIt (below_then H4.out hR.bel)
        clear hR hI5 hs5 hI4 H4 H2
        go_wp2_with (fail)
        refine dA.out.mono ?_
        rintro e w6 ⟨rfl, hb6⟩
        have H6 := hidIt (below_then H5.out hb6)
        clear hb6 dA
        go_wp2_with (fail)
        go_ret
        exact ⟨rfl, H6.out⟩
  · have dN := hidIt (new_any n z w1)
    have dM := hidIt (numbers_any n z)
    rw [decide_eq_false hok] at dM ⊢
    replace hok := hidIt hok
    go_wp2_with (fail)
    refine dN.out.mono ?_
    rintro e w2 hR
    unfold NewR at hR
    rw [if_neg hok.out] at hR
    obtain ⟨rfl, rfl⟩ := hR
    clear dN
    go_wp2_with (fail)
    refine (dM.out _).mono ?_
    rintro e w3 ⟨rfl, rfl⟩
    clear dM
    go_wp2_with (fail)
    go_ret
    exact ⟨rfl, H1.out⟩
end Go.Proofs.Ytlpggkdmjmlpkaa
