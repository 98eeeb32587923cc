import Derived.Test.YtnkemflpenlmgaaCl5
import Derived.Test.YtnkemflpenlmgaaRfS
namespace Go.Proofs.Ytnkemflpenlmgaa
open Go.RowKit
set_option maxRecDepth 100000 in
theorem blocklaw_walk (key nonce : ByteArray) (x : Int) (w : World) (_h0 : key.size ≤ maxLen) (_h1 : nonce.size ≤ maxLen) (wx : (Lit.int .u32 x).wf = true) :
    Calls Try.prog 5 #[.string key, .string nonce, .int .u32 x] w fun e w' => e = .returned (.bool true) ∧ Below w.heap.size w w' := by
  obtain ⟨c, rfl, lc⟩ : ∃ n : Nat, x = n ∧ n < 4294967296 := by
    have := bounds_u32 wx
    exact ⟨x.toNat, by omega, by omega⟩
  clear wx _h0 _h1
  by_cases hk : 100 < key.size
  · have t1 : (100 : Int) < (key.size : Int) := by omega
    clear hk lc
    go_enter Try.func5, Try.ntmps5
    go_wp2_with (fail)
    refine (awake_any _).mono ?_
    rintro e v1 ⟨rfl, hb1⟩
    go_wp2_with (fail)
    refine (awake_any _).mono ?_
    rintro e v2 ⟨rfl, hb2⟩
    have H := hidIt (below_then hb1 hb2)
    clear hb1 hb2
    go_wp2_with (fail)
    go_ret
    exact ⟨rfl, H.out⟩
  · have t1 : ¬ (100 : Int) < (key.size : Int) := by omega
    by_cases hn : 100 < nonce.size
    · have t2 : (100 : Int) < (nonce.size : Int) := by omega
      clear hk hn lc
      go_enter Try.func5, Try.ntmps5
      go_wp2_with (fail)
      refine (awake_any _).mono ?_
      rintro e v1 ⟨rfl, hb1⟩
      go_wp2_with (fail)
      refine (awake_any _).mono ?_
      rintro e v2 ⟨rfl, hb2⟩
      have H := hidIt (below_then hb1 hb2)
      clear hb1 hb2
      go_wp2_with (fail)
      go_ret
      exact ⟨rfl, H.out⟩
    · have t2 : ¬ (100 : Int) < (nonce.size : Int) := by omega
      by_cases hf : key.size = 32 ∧ nonce.size = 12
      · have k1 := hidIt (fun W => blockF_ok key nonce c hf.1 hf.2 lc W)
        have k2 := hidIt (fun W => refblock_ok key nonce c hf.1 hf.2 lc W)
        obtain ⟨zs, hzs⟩ : ∃ zs, Hid (Cc.block (Cc.init (ofStr key) (ofStr nonce) c) = zs) := ⟨_, rfl⟩
        have hzl : Hid (zs.length = 64) := by show _ = _; rw [← hzs.out, Cc.block_len]
        rw [hzs.out] at k1 k2
        obtain ⟨sz, hsz⟩ : ∃ sz, Hid (str zs = sz) := ⟨_, rfl⟩
        clear hf hk hn lc
        go_enter Try.func5, Try.ntmps5
        go_wp2_with (fail)
        refine (awake_any _).mono ?_
        rintro e v1 ⟨rfl, hb1⟩
        have H1 := hidIt hb1
        clear hb1
        go_wp2_with (fail)
        refine (k1.out _).mono ?_
        rintro e v2 ⟨g, hg, rfl, hby2, hb2⟩
        have H2 := hidIt (below_then H1.out hb2)
        have B2 := hidIt hby2
        clear hb2 hby2 hg
        go_wp2_with (fail)
        refine (k2.out _).mono ?_
        rintro e v3 ⟨⟨a3, c3, rfl, hby3, -⟩, hb3⟩
        have H3 := hidIt (below_then H2.out hb3)
        have cv1 := conv_str v3 _ 64 64 zs hzl.out.symm (B2.out.below hb3)
        have cv2 := conv_str v3 a3 zs.length c3 zs rfl hby3
        rw [hsz.out] at cv1 cv2
        clear hb3 hby3 B2 H1 H2
        go_wp2_with (fail)
        go_ret
        exact ⟨rfl, H3.out⟩
      · have k1 := hidIt (fun W => blockF_err key nonce c hf W)
        have k2 := hidIt (fun W => refblock_err key nonce c hf W)
        clear hf hk hn lc
        go_enter Try.func5, Try.ntmps5
        go_wp2_with (fail)
        refine (awake_any _).mono ?_
        rintro e v1 ⟨rfl, hb1⟩
        have H1 := hidIt hb1
        clear hb1
        go_wp2_with (fail)
        refine (k1.out _).mono ?_
        rintro e v2 ⟨rfl, rfl⟩
        go_wp2_with (fail)
        refine (k2.out _).mono ?_
        rintro e v2 ⟨rfl, rfl⟩
        have cv := conv_str v1 none 0 0 [] rfl (fun i hi => by cases hi)
        go_wp2_with (fail)
        go_ret
        exact ⟨rfl, H1.out⟩
end Go.Proofs.Ytnkemflpenlmgaa
