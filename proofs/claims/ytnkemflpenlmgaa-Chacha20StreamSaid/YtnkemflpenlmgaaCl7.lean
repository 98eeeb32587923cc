import Derived.Test.YtnkemflpenlmgaaCl6
namespace Go.Proofs.Ytnkemflpenlmgaa
open Go.RowKit
set_option maxRecDepth 100000 in
theorem streamlaw_walk (key nonce : ByteArray) (o n : Int) (w : World) (_h0 : key.size ≤ maxLen) (_h1 : nonce.size ≤ maxLen) (_w2 : (Lit.int .i64 o).wf = true) (w3 : (Lit.int .i64 n).wf = true) :
    Calls Try.prog 6 #[.string key, .string nonce, .int .i64 o, .int .i64 n] w fun e w' => e = .returned (.bool true) ∧ Below w.heap.size w w' := by
  have hnb : n < 9223372036854775808 := by have := bounds_i64 w3; omega
  clear _h0 _h1 _w2 w3
  by_cases hk : 100 < key.size
  · have t1 : (100 : Int) < (key.size : Int) := by omega
    clear hk hnb
    go_enter Try.func6, Try.ntmps6
    go_wp2_with (fail)
    refine (awake_any _).mono ?_
    rintro e v1 ⟨rfl, hb1⟩
    go_wp2_with (fail)
    refine (awake_any _).mono ?_
    rintro e v2 ⟨rfl, hb2⟩
    have H := hidIt (below_then hb1 hb2)
    clear hb1 hb2
    go_wp2_with (fail)
    go_ret
    exact ⟨rfl, H.out⟩
  · have t1 : ¬ (100 : Int) < (key.size : Int) := by omega
    by_cases hn : 100 < nonce.size
    · have t2 : (100 : Int) < (nonce.size : Int) := by omega
      clear hk hn hnb
      go_enter Try.func6, Try.ntmps6
      go_wp2_with (fail)
      refine (awake_any _).mono ?_
      rintro e v1 ⟨rfl, hb1⟩
      go_wp2_with (fail)
      refine (awake_any _).mono ?_
      rintro e v2 ⟨rfl, hb2⟩
      have H := hidIt (below_then hb1 hb2)
      clear hb1 hb2
      go_wp2_with (fail)
      go_ret
      exact ⟨rfl, H.out⟩
    · have t2 : ¬ (100 : Int) < (nonce.size : Int) := by omega
      by_cases hm : 400 < n ∧ n ≤ 1048576
      · have m1 : decide (400 < n) = true := by simp [hm.1]
        have m2 : decide (n ≤ 1048576) = true := by simp [hm.2]
        have m3 : 400 < n := hm.1
        have m4 : n ≤ 1048576 := hm.2
        clear hk hn hnb hm
        go_enter Try.func6, Try.ntmps6
        go_wp2_with (fail)
        refine (awake_any _).mono ?_
        rintro e v1 ⟨rfl, hb1⟩
        go_wp2_with (fail)
        refine (awake_any _).mono ?_
        rintro e v2 ⟨rfl, hb2⟩
        have H := hidIt (below_then hb1 hb2)
        clear hb1 hb2
        go_wp2_with (fail)
        go_ret
        exact ⟨rfl, H.out⟩
      · have hm' : ¬ 400 < n ∨ (400 < n ∧ ¬ n ≤ 1048576) := by omega
        clear hm
        by_cases hbad : ¬ (key.size = 32 ∧ nonce.size = 12) ∨ o < 0 ∨ n < 0
        · have k1 := hidIt (fun W => stream_err key nonce o n hbad W)
          have k2 := hidIt (fun W => refstream_err key nonce o n hbad W)
          clear hbad hk hn hnb
          rcases hm' with m1 | ⟨m1, m2⟩
          · have m1d : decide (400 < n) = false := by simp only [decide_eq_false_iff_not]; exact m1
            go_enter Try.func6, Try.ntmps6
            go_wp2_with (fail)
            refine (awake_any _).mono ?_
            rintro e v1 ⟨rfl, hb1⟩
            have H1 := hidIt hb1
            clear hb1
            go_wp2_with (fail)
            refine (k1.out _).mono ?_
            rintro e v2 ⟨rfl, rfl⟩
            go_wp2_with (fail)
            refine (k2.out _).mono ?_
            rintro e v2 ⟨rfl, rfl⟩
            have cv := conv_str v1 none 0 0 [] rfl (fun i hi => by cases hi)
            go_wp2_with (fail)
            go_ret
            exact ⟨rfl, H1.out⟩
          · have m1d : decide (400 < n) = true := by simp [m1]
            have m2d : decide (n ≤ 1048576) = false := by simp only [decide_eq_false_iff_not]; exact m2
            go_enter Try.func6, Try.ntmps6
            go_wp2_with (fail)
            refine (awake_any _).mono ?_
            rintro e v1 ⟨rfl, hb1⟩
            have H1 := hidIt hb1
            clear hb1
            go_wp2_with (fail)
            refine (k1.out _).mono ?_
            rintro e v2 ⟨rfl, rfl⟩
            go_wp2_with (fail)
            refine (k2.out _).mono ?_
            rintro e v2 ⟨rfl, rfl⟩
            have cv := conv_str v1 none 0 0 [] rfl (fun i hi => by cases hi)
            go_wp2_with (fail)
            go_ret
            exact ⟨rfl, H1.out⟩
        · have hgood : (key.size = 32 ∧ nonce.size = 12) ∧ 0 ≤ o ∧ 0 ≤ n := by
            refine ⟨Classical.byContradiction fun h => hbad (.inl h), ?_, ?_⟩
            · exact Int.not_lt.1 fun h => hbad (.inr (.inl h))
            · exact Int.not_lt.1 fun h => hbad (.inr (.inr h))
          clear hbad
          obtain ⟨hf, ho0, hn0⟩ := hgood
          by_cases hlg : 1048576 < n ∨ 274877906944 - n < o
          · have k1 := hidIt (fun W => stream_large key nonce o n hf.1 hf.2 ho0 hn0 hnb hlg W)
            have k2 := hidIt (fun W => refstream_large key nonce o n hf.1 hf.2 ho0 hn0 hnb hlg W)
            clear hf hlg hk hn hnb
            rcases hm' with m1 | ⟨m1, m2⟩
            · have m1d : decide (400 < n) = false := by simp only [decide_eq_false_iff_not]; exact m1
              go_enter Try.func6, Try.ntmps6
              go_wp2_with (fail)
              refine (awake_any _).mono ?_
              rintro e v1 ⟨rfl, hb1⟩
              have H1 := hidIt hb1
              clear hb1
              go_wp2_with (fail)
              refine (k1.out _).mono ?_
              rintro e v2 ⟨rfl, rfl⟩
              go_wp2_with (fail)
              refine (k2.out _).mono ?_
              rintro e v2 ⟨rfl, rfl⟩
              have cv := conv_str v1 none 0 0 [] rfl (fun i hi => by cases hi)
              go_wp2_with (fail)
              go_ret
              exact ⟨rfl, H1.out⟩
            · have m1d : decide (400 < n) = true := by simp [m1]
              have m2d : decide (n ≤ 1048576) = false := by simp only [decide_eq_false_iff_not]; exact m2
              go_enter Try.func6, Try.ntmps6
              go_wp2_with (fail)
              refine (awake_any _).mono ?_
              rintro e v1 ⟨rfl, hb1⟩
              have H1 := hidIt hb1
              clear hb1
              go_wp2_with (fail)
              refine (k1.out _).mono ?_
              rintro e v2 ⟨rfl, rfl⟩
              go_wp2_with (fail)
              refine (k2.out _).mono ?_
              rintro e v2 ⟨rfl, rfl⟩
              have cv := conv_str v1 none 0 0 [] rfl (fun i hi => by cases hi)
              go_wp2_with (fail)
              go_ret
              exact ⟨rfl, H1.out⟩
          · have m1 : ¬ 400 < n := by omega
            have m1d : decide (400 < n) = false := by simp only [decide_eq_false_iff_not]; exact m1
            obtain ⟨O, rfl⟩ : ∃ O : Nat, o = O := ⟨o.toNat, by omega⟩
            obtain ⟨N, rfl⟩ : ∃ N : Nat, n = N := ⟨n.toNat, by omega⟩
            have k1 := hidIt (fun W => stream_ok key nonce O N hf.1 hf.2 (by omega) (by omega) W)
            have k2 := hidIt (fun W => refstream_ok key nonce O N hf.1 hf.2 (by omega) (by omega) W)
            have m3 : ¬ 400 < N := by omega
            obtain ⟨zs, hzs⟩ : ∃ zs, Hid (Cc.stream (ofStr key) (ofStr nonce) O N = zs) := ⟨_, rfl⟩
            have hzl : Hid (zs.length = N) := by show _ = _; rw [← hzs.out, Cc.stream_len]
            rw [hzs.out] at k1 k2
            obtain ⟨sz, hsz⟩ : ∃ sz, Hid (str zs = sz) := ⟨_, rfl⟩
            clear hf hlg hk hn hnb hm' ho0 hn0 m1
            go_enter Try.func6, Try.ntmps6
            go_wp2_with (fail)
            refine (awake_any _).mono ?_
            rintro e v1 ⟨rfl, hb1⟩
            have H1 := hidIt hb1
            clear hb1
            go_wp2_with (fail)
            refine (k1.out _).mono ?_
            rintro e v2 ⟨rfl, hby2, hb2⟩
            have H2 := hidIt (below_then H1.out hb2)
            have B2 := hidIt hby2
            clear hb2 hby2
            generalize v1.heap.size = g1 at *
            go_wp2_with (fail)
            refine (k2.out _).mono ?_
            rintro e v3 ⟨⟨a3, c3, rfl, hby3, -⟩, hb3⟩
            have H3 := hidIt (below_then H2.out hb3)
            have cv1 := conv_str v3 _ N N zs hzl.out.symm (B2.out.below hb3)
            have cv2 := conv_str v3 a3 zs.length c3 zs rfl hby3
            rw [hsz.out] at cv1 cv2
            clear hb3 hby3 B2 H1 H2
            go_wp2_with (fail)
            go_ret
            exact ⟨rfl, H3.out⟩
end Go.Proofs.Ytnkemflpenlmgaa
