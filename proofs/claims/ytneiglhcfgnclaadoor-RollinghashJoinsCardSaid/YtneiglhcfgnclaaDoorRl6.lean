import Derived.Test.YtneiglhcfgnclaaDoorRl2
namespace Go.Proofs.YtneiglhcfgnclaaDoor
open Go.RowKit
theorem emptyOwn (w : World) : (w.alloc (.cells #[] 5)).ownsRow w.heap.size 5 1 (.slice (some ⟨w.heap.size, 0, none⟩) 0 0) 0 (vals []) := by
  refine ⟨by simp [vals], .inr ⟨w.heap.size, 0, _, rfl, Nat.le_refl _, heap_alloc_new _ _, by omega, by unfold maxLen; omega, by simp, by simp [vals]⟩⟩
theorem owned_cap {w : World} {base n : Nat} {v : Value} {bs : List Nat} (h : w.ownsRow base 5 1 v n (vals bs)) (hn : n = bs.length) : ∃ a cap, v = .slice a bs.length cap ∧ bs.length ≤ cap ∧ Bytes w a bs := by
  obtain ⟨a, cap, hv, hB, -⟩ := owned_bytes h hn
  refine ⟨a, cap, hv, ?_, hB⟩
  rcases h.2 with ⟨h1, h0⟩ | ⟨g, c2, cur, h1, _, _, hle, _⟩
  · omega
  · rw [hv] at h1; simp only [Value.slice.injEq] at h1; omega
set_option maxRecDepth 100000 in
set_option maxHeartbeats 4000000 in
theorem rjoins_walk (a a' : Option Addr) (len cap len' cap' : Nat) (xs bs : List Nat) (s : Int) (w : World) (hL : LaidZ w) (h0 : (Lit.int .u64 s).wf = true) (h1 : RowB w a len cap xs) (z1 : cap ≤ 140737488355328) (h2 : RowB w a' len' cap' bs) (z2 : cap' ≤ 140737488355328) :
    Calls Tryd.prog 9 #[.int .u64 s, .slice a len cap, .slice a' len' cap'] w fun e w' => e = .returned (.bool true) ∧ Below w.heap.size w w' := by
  obtain ⟨s, rfl, hs⟩ := nat_u64 h0
  clear h0 hs
  obtain ⟨hA, rfl, na, hlta, hcapa, -⟩ := h1
  obtain ⟨hB, rfl, nb, hltb, hcapb, -⟩ := h2
  have lz1 : xs.length ≤ 140737488355328 := Nat.le_trans hcapa z1
  have lz2 : bs.length ≤ 140737488355328 := Nat.le_trans hcapb z2
  clear z1 z2
  by_cases h64 : 64 < xs.length + bs.length
  · have t : (xs.length : Int) + (bs.length : Int) > 64 := by omega
    go_enter Tryd.func9, Tryd.ntmps9
    go_wp2_with (fail)
    refine (awake_any _ hL).mono ?_
    rintro e wz ⟨rfl, hbz⟩
    have HZ := hidIt hbz
    clear hbz
    go_wp2_with (fail)
    go_ret
    exact ⟨rfl, HZ.out⟩
  · by_cases hb64 : bs.length = 64
    · have t : ¬ (xs.length : Int) + (bs.length : Int) > 64 := by omega
      have t2 : (bs.length : Int) = 64 := by omega
      have t3 : ((bs.length : Int) == 64) = true := by simp; omega
      go_enter Tryd.func9, Tryd.ntmps9
      go_wp2_with (fail)
      refine (awake_any _ hL).mono ?_
      rintro e wz ⟨rfl, hbz⟩
      have HZ := hidIt hbz
      clear hbz
      go_wp2_with (fail)
      go_ret
      exact ⟨rfl, HZ.out⟩
    · have t : ¬ (xs.length : Int) + (bs.length : Int) > 64 := by omega
      have t2 : ((bs.length : Int) == 64) = false := by simp; omega
      have t3 : ¬ ((bs.length : Int) = 64) := by omega
      have AA := hidIt hA
      have BB := hidIt hB
      have hlah := hidIt hlta
      have hlbh := hidIt hltb
      have nah := hidIt na
      have nbh := hidIt nb
      clear hA hB hlta hltb na nb
      obtain ⟨x, hx, lx⟩ : ∃ y, Hid (Rh.hsh (Rh.num s) xs = y) ∧ y < 18446744073709551616 := ⟨_, rfl, Rh.hsh_lt (num_all s) _⟩
      obtain ⟨y, hy, ly⟩ : ∃ y, Hid (Rh.hsh (Rh.num s) bs = y) ∧ y < 18446744073709551616 := ⟨_, rfl, Rh.hsh_lt (num_all s) _⟩
      obtain ⟨r, hr, lr⟩ := rot_name lx bs.length
      obtain ⟨z, ez, lz, hz⟩ := hxor_lt lr ly
      have hz2 : Hid (Rh.hsh (Rh.num s) (xs ++ bs) = z) := by show _ = _; rw [Rh.hsh_append (num_all s), hx.out, hy.out, hr.out]; exact hz.out.symm
      have hlx : (xs ++ bs).length ≤ 64 := by rw [List.length_append]; omega
      have hll : ∀ q ∈ xs ++ bs, q < 256 := by
        intro q hq
        rcases List.mem_append.1 hq with hq | hq
        · exact hlah.out q hq
        · exact hlbh.out q hq
      clear hz
      go_enter Tryd.func9, Tryd.ntmps9
      go_wp2_with (fail)
      refine (of_any s a cap xs (by omega) hcapa hlah.out _ AA.out).mono ?_
      rintro e w1 ⟨rfl, hb1⟩
      rw [hx.out]
      have H1 := hidIt hb1
      clear hb1
      go_wp2_with (fail)
      refine (of_any s a' cap' bs (by omega) hcapb hlbh.out _ (BB.out.below H1.out)).mono ?_
      rintro e w2 ⟨rfl, hb2⟩
      rw [hy.out]
      have H2 := hidIt (below_then H1.out hb2)
      have A2 := hidIt (AA.out.below H2.out)
      have B2 := hidIt (BB.out.below H2.out)
      clear hb2 H1
      have hob0 := hidIt (emptyOwn w2)
      have hA0 := hidIt (A2.out.below ((Below.refl w2.heap.size w2).alloc (Nat.le_refl _) (.cells #[] 5)))
      go_wp2_with (first | (refine wpList_append_bytes _ rfl _ _ rfl w2.heap.size (.slice (some ⟨w2.heap.size, 0, none⟩) 0 0) 0 (vals []) rfl hob0.out a xs.length cap xs rfl rfl hA0.out nah.out (by omega) (by simp) ?_))
      intro v3 w3 ho3 hg3
      have lt0 : ∀ p, (Value.slice (some ⟨w2.heap.size, 0, none⟩) 0 0).ownBlock = some p → w2.heap.size ≤ p := fun p hp => (hob0.out.lt p hp).1
      have hb3 : Hid (Below w2.heap.size w2 w3) := ((Below.refl w2.heap.size w2).alloc (Nat.le_refl _) _).grown hg3 (by simp) lt0
      have lt3 : ∀ p, v3.ownBlock = some p → w2.heap.size ≤ p := fun p hp => (ho3.lt p hp).1
      have B3 := hidIt (B2.out.below hb3.out)
      have ho3h := hidIt ho3
      clear hob0 hA0 hg3 lt0 ho3 A2
      go_wp2_with (first | (refine wpList_append_bytes _ rfl _ _ rfl w2.heap.size v3 xs.length (vals [] ++ vals xs) rfl ho3h.out a' bs.length cap' bs rfl rfl B3.out nbh.out (by omega) hb3.out.size ?_))
      intro v4 w4 ho4 hg4
      have hb4 : Hid (Below w2.heap.size w2 w4) := hb3.out.grown hg4 hb3.out.size lt3
      have ho5 : w4.ownsRow w2.heap.size 5 1 v4 (xs.length + bs.length) (vals (xs ++ bs)) := by
        rw [← vals_append]; exact ho4
      obtain ⟨a4, c4, rfl, hc4, B4⟩ := owned_cap ho5 (by rw [List.length_append])
      have B5 := hidIt B4
      have H4 := hidIt (H2.out.trans (hb4.out.mono H2.out.size))
      clear ho4 hg4 ho5 B4 lt3 ho3h B3 hb3 hb4 B2 H2 nah nbh
      obtain ⟨n, hn⟩ : ∃ n, Hid ((xs ++ bs).length = n) := ⟨_, rfl⟩
      have co : Hid (∀ W, Bytes W a4 (xs ++ bs) → Calls Tryd.prog 14 #[.int .u64 s, .slice a4 n c4] W fun e w' => e = .returned (.tuple #[.int .u64 (z : Int), .int .i64 0]) ∧ Below W.heap.size W w') := fun W hW => by
        rw [← hn.out, ← hz2.out]
        exact of_any s a4 c4 (xs ++ bs) hlx hc4 hll W hW
      rw [hn.out]
      go_wp2_with (fail)
      refine (co.out _ B5.out).mono ?_
      rintro e w5 ⟨rfl, hb5⟩
      have H5 := hidIt (below_then H4.out hb5)
      clear hb5
      go_wp2_with (fail)
      refine (awake_any _ (hL.below H5.out hL.two)).mono ?_
      rintro e wz ⟨rfl, hbz⟩
      have HZ := hidIt (below_then H5.out hbz)
      clear hbz
      go_wp2_with (fail)
      refine (refrot_any x bs.length lx (by omega) _).mono ?_
      rintro e w6 ⟨rfl, rfl⟩
      rw [hr.out]
      go_wp2_with (fail)
      go_ret
      exact ⟨rfl, HZ.out⟩
end Go.Proofs.YtneiglhcfgnclaaDoor
