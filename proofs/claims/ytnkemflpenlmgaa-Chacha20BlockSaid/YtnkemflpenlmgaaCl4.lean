import Derived.Test.YtnkemflpenlmgaaCl3
namespace Go.Proofs.Ytnkemflpenlmgaa
open Go.RowKit
set_option maxRecDepth 100000 in
theorem alignedlaw_walk (key nonce : ByteArray) (x : Int) (w : World) (_h0 : key.size ≤ maxLen) (_h1 : nonce.size ≤ maxLen) (wx : (Lit.int .u32 x).wf = true) :
    Calls Try.prog 8 #[.string key, .string nonce, .int .u32 x] w fun e w' => e = .returned (.bool true) ∧ Below w.heap.size w w' := by
  obtain ⟨c, rfl, lc⟩ : ∃ n : Nat, x = n ∧ n < 4294967296 := by
    have := bounds_u32 wx
    exact ⟨x.toNat, by omega, by omega⟩
  clear wx _h0 _h1
  by_cases hk : 100 < key.size
  · have t1 : (100 : Int) < (key.size : Int) := by omega
    clear hk lc
    go_enter Try.func8, Try.ntmps8
    go_wp2_with (fail)
    refine (awake_any _).mono ?_
    rintro e v1 ⟨rfl, hb1⟩
    go_wp2_with (fail)
    refine (awake_any _).mono ?_
    rintro e v2 ⟨rfl, hb2⟩
    have H := hidIt (below_then hb1 hb2)
    clear hb1 hb2
    go_wp2_with (fail)
    go_ret
    exact ⟨rfl, H.out⟩
  · have t1 : ¬ (100 : Int) < (key.size : Int) := by omega
    by_cases hn : 100 < nonce.size
    · have t2 : (100 : Int) < (nonce.size : Int) := by omega
      clear hk hn lc
      go_enter Try.func8, Try.ntmps8
      go_wp2_with (fail)
      refine (awake_any _).mono ?_
      rintro e v1 ⟨rfl, hb1⟩
      go_wp2_with (fail)
      refine (awake_any _).mono ?_
      rintro e v2 ⟨rfl, hb2⟩
      have H := hidIt (below_then hb1 hb2)
      clear hb1 hb2
      go_wp2_with (fail)
      go_ret
      exact ⟨rfl, H.out⟩
    · have t2 : ¬ (100 : Int) < (nonce.size : Int) := by omega
      obtain ⟨o, ho⟩ : ∃ o, Hid (o = c * 64) := ⟨_, rfl⟩
      have v1 : IntKind.i64.wrap (c : Int) = (c : Int) := IntWalk.i64_in _ (by omega)
      have v2 : (c : Int) * 64 = (o : Int) := by rw [ho.out]; omega
      have v3 : IntKind.i64.wrap (o : Int) = (o : Int) := IntWalk.i64_in _ (by rw [ho.out]; omega)
      by_cases hf : key.size = 32 ∧ nonce.size = 12
      · have k1 := hidIt (fun W => blockF_ok key nonce c hf.1 hf.2 lc W)
        have k2 := hidIt (fun W => stream_ok key nonce o 64 hf.1 hf.2 (by omega) (by rw [ho.out]; omega) W)
        have he : Cc.stream (ofStr key) (ofStr nonce) o 64 = Cc.block (Cc.init (ofStr key) (ofStr nonce) c) := by rw [ho.out]; exact Cc.stream_block _ _ _ lc
        rw [he] at k2
        obtain ⟨zs, hzs⟩ : ∃ zs, Hid (Cc.block (Cc.init (ofStr key) (ofStr nonce) c) = zs) := ⟨_, rfl⟩
        have hzl : Hid (zs.length = 64) := by show _ = _; rw [← hzs.out, Cc.block_len]
        rw [hzs.out] at k1 k2
        obtain ⟨sz, hsz⟩ : ∃ sz, Hid (str zs = sz) := ⟨_, rfl⟩
        clear he hf hk hn lc
        go_enter Try.func8, Try.ntmps8
        go_wp2_with (fail)
        refine (awake_any _).mono ?_
        rintro e v1 ⟨rfl, hb1⟩
        have H1 := hidIt hb1
        clear hb1
        go_wp2_with (fail)
        refine (k1.out _).mono ?_
        rintro e v2 ⟨g, hg, rfl, hby2, hb2⟩
        have H2 := hidIt (below_then H1.out hb2)
        have B2 := hidIt hby2
        clear hb2 hby2 hg
        go_wp2_with (fail)
        refine (k2.out _).mono ?_
        rintro e v3 ⟨rfl, hby3, hb3⟩
        have H3 := hidIt (below_then H2.out hb3)
        have cv1 := conv_str v3 _ 64 64 zs hzl.out.symm (B2.out.below hb3)
        have cv2 := conv_str v3 _ 64 64 zs hzl.out.symm hby3
        rw [hsz.out] at cv1 cv2
        clear hb3 hby3 B2 H1 H2
        generalize v2.heap.size = g2 at *
        go_wp2_with (fail)
        go_ret
        exact ⟨rfl, H3.out⟩
      · have k1 := hidIt (fun W => blockF_err key nonce c hf W)
        have k2 := hidIt (fun W => stream_err key nonce o 64 (.inl hf) W)
        clear hf hk hn lc ho
        go_enter Try.func8, Try.ntmps8
        go_wp2_with (fail)
        refine (awake_any _).mono ?_
        rintro e v1 ⟨rfl, hb1⟩
        have H1 := hidIt hb1
        clear hb1
        go_wp2_with (fail)
        refine (k1.out _).mono ?_
        rintro e v2 ⟨rfl, rfl⟩
        go_wp2_with (fail)
        refine (k2.out _).mono ?_
        rintro e v2 ⟨rfl, rfl⟩
        have cv := conv_str v1 none 0 0 [] rfl (fun i hi => by cases hi)
        go_wp2_with (fail)
        go_ret
        exact ⟨rfl, H1.out⟩
end Go.Proofs.Ytnkemflpenlmgaa
