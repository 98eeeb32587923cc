import Derived.Test.YtpfekbbmbdegbaaDoorHmL2
namespace Go.Proofs.YtpfekbbmbdegbaaDoor
open Go.RowKit
theorem ofStr_take (s : ByteArray) (n : Nat) : ofStr (s.extract 0 n) = (ofStr s).take n := by
  unfold ofStr
  rw [ByteArray.data_extract, Array.toList_extract, ← List.map_take]
  simp [List.extract]
theorem sliceSH (s : ByteArray) (n : Nat) (h : n ≤ s.size) (W : World) : (Instr.slice 9 (.string s) none (some (.int .i64 (n : Int))) none).run Tryd.prog W = .ok (.string (str ((ofStr s).take n))) W := by
  rw [run_slice_string_h W 9 s (by kernel_rfl) .i64 (n : Int) (by omega) (by omega), ← ofStr_take, str_ofStr]
  simp
set_option maxRecDepth 100000 in
set_option maxHeartbeats 2000000 in
theorem prefix_walk (s t : ByteArray) (z0 z1 : Int) (w : World) (hL : LaidH w) (_h0 : s.size ≤ maxLen) (_h1 : t.size ≤ maxLen) (_h2 : (Lit.int .i64 z0).wf = true) (_h3 : (Lit.int .i64 z1).wf = true) :
    Calls Tryd.prog 10 #[.string s, .string t, .int .i64 z0, .int .i64 z1] w fun e w' => e = .returned (.bool true) ∧ Below w.heap.size w w' := by
  clear _h0 _h1 _h2 _h3
  by_cases hbig : 100 < s.size ∨ 100 < t.size ∨ z0 < 0 ∨ z1 < z0 ∨ 8160 < z1
  · go_enter Tryd.func10, Tryd.ntmps10
    go_wp2_with (fail)
    refine (awakeH_any _ hL).mono ?_
    rintro e w1 ⟨rfl, hb1⟩
    by_cases h0 : (100 : Int) < (s.size : Int)
    · go_wp2_with (fail)
      go_ret
      exact ⟨rfl, hb1⟩
    by_cases h1 : (100 : Int) < (t.size : Int)
    · go_wp2_with (fail)
      go_ret
      exact ⟨rfl, hb1⟩
    by_cases h2 : z0 < 0
    · go_wp2_with (fail)
      go_ret
      exact ⟨rfl, hb1⟩
    by_cases h3 : z1 < z0
    · go_wp2_with (fail)
      go_ret
      exact ⟨rfl, hb1⟩
    have h4 : 8160 < z1 := by omega
    go_wp2_with (fail)
    go_ret
    exact ⟨rfl, hb1⟩
  have t0 : ¬ (100 : Int) < (s.size : Int) := by omega
  have t1 : ¬ (100 : Int) < (t.size : Int) := by omega
  obtain ⟨n, rfl⟩ : ∃ n : Nat, z0 = (n : Int) := ⟨z0.toNat, by omega⟩
  obtain ⟨m, rfl⟩ : ∃ m : Nat, z1 = (m : Int) := ⟨z1.toNat, by omega⟩
  have hnm : n ≤ m := by omega
  have hm : m ≤ 8160 := by omega
  have t2 : ¬ (n : Int) < 0 := by omega
  have t3 : ¬ (m : Int) < (n : Int) := by omega
  have t4 : ¬ (8160 : Int) < (m : Int) := by omega
  obtain ⟨k, hk⟩ : ∃ k, Hid (ofStr s = k) := ⟨_, rfl⟩
  obtain ⟨l, hl⟩ : ∃ l, Hid (ofStr t = l) := ⟨_, rfl⟩
  have hks : Hid (s.size = k.length) := by show _ = _; rw [← hk.out, ofStr_len]
  have hls : Hid (t.size = l.length) := by show _ = _; rw [← hl.out, ofStr_len]
  have hk100 : k.length ≤ 100 := by have := hks.out; omega
  have hl100 : l.length ≤ 100 := by have := hls.out; omega
  clear hbig
  go_enter Tryd.func10, Tryd.ntmps10
  go_wp2_with (fail)
  refine (awakeH_any _ hL).mono ?_
  rintro e w1 ⟨rfl, hb1⟩
  have L1 := hL.below hb1 hL.two
  by_cases hs : s.size < 32
  · have t5 : (s.size : Int) < 32 := by omega
    go_wp2_with (fail)
    refine (expand_arg s t (n : Int) (.inl hs) _).mono ?_
    rintro e w2 ⟨rfl, hb2⟩
    go_wp2_with (fail)
    refine (expand_arg s t (m : Int) (.inl hs) _).mono ?_
    rintro e w3 ⟨rfl, hb3⟩
    go_wp2_with (fail)
    go_ret
    exact ⟨rfl, below_then (below_then hb1 hb2) hb3⟩
  · have t5 : ¬ (s.size : Int) < 32 := by omega
    have hk32 : 32 ≤ k.length := by have := hks.out; omega
    go_wp2_with (fail)
    refine (expand_any s t k l hk hl hk32 (by omega) (by omega) n (by omega) _ L1).mono ?_
    rintro e w2 ⟨rfl, hb2⟩
    have H2 := below_then hb1 hb2
    have L2 := hL.below H2 hL.two
    obtain ⟨A, hA⟩ : ∃ A, Hid (Hm.expand k l n = A) := ⟨_, rfl⟩
    obtain ⟨sa, hsa⟩ : ∃ sa, Hid (str A = sa) := ⟨_, rfl⟩
    have za : (sa.size : Int) = (n : Int) := by
      have e : sa.size = n := by rw [← hsa.out, str_size, ← hA.out, Hm.expand_len]
      omega
    rw [hA.out, hsa.out]
    clear t0 t1 t2 t3 t4
    go_wp2_with (fail)
    refine (expand_any s t k l hk hl hk32 (by omega) (by omega) m hm _ L2).mono ?_
    rintro e w3 ⟨rfl, hb3⟩
    have H3 := below_then H2 hb3
    obtain ⟨B, hB⟩ : ∃ A, Hid (Hm.expand k l m = A) := ⟨_, rfl⟩
    obtain ⟨sb, hsb⟩ : ∃ sa, Hid (str B = sa) := ⟨_, rfl⟩
    have zb0 : Hid (sb.size = m) := by show _ = _; rw [← hsb.out, str_size, ← hB.out, Hm.expand_len]
    have zb : (sb.size : Int) = (m : Int) := by have := zb0.out; omega
    have hofB : Hid (ofStr sb = B) := by show _ = _; rw [← hsb.out, ofStr_str]; rw [← hB.out]; exact Hm.expand_lt _ _ _
    have hcut : Hid (B.take n = A) := by show _ = _; rw [← hA.out, ← hB.out]; exact Hm.expand_take k l n m hnm
    have hsl : ∀ W, (Instr.slice 9 (.string sb) none (some (.int .i64 (n : Int))) none).run Tryd.prog W = .ok (.string sa) W := fun W => by
      rw [sliceSH sb n (by rw [zb0.out]; exact hnm), hofB.out, hcut.out, hsa.out]
    have v1 : (sa.toList == sa.toList) = true := by simp
    rw [hB.out, hsb.out]
    go_wp2_with (fail)
    go_ret
    exact ⟨rfl, H3⟩
end Go.Proofs.YtpfekbbmbdegbaaDoor
