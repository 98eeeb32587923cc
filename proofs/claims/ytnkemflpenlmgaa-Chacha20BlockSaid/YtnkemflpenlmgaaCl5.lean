import Derived.Test.YtnkemflpenlmgaaCl4
namespace Go.Proofs.Ytnkemflpenlmgaa
open Go.RowKit
theorem str_append (xs ys : List Nat) : str xs ++ str ys = str (xs ++ ys) := by
  apply ByteArray.ext
  simp [str, ByteArray.data_append]
set_option maxRecDepth 100000 in
theorem partslaw_walk (key nonce : ByteArray) (o n m : Int) (w : World) (_h0 : key.size ≤ maxLen) (_h1 : nonce.size ≤ maxLen) (_w2 : (Lit.int .i64 o).wf = true) (_w3 : (Lit.int .i64 n).wf = true) (_w4 : (Lit.int .i64 m).wf = true) :
    Calls Try.prog 7 #[.string key, .string nonce, .int .i64 o, .int .i64 n, .int .i64 m] w fun e w' => e = .returned (.bool true) ∧ Below w.heap.size w w' := by
  clear _h0 _h1 _w2 _w3 _w4
  by_cases n0 : n < 0
  · have n0d : decide (n < 0) = true := by simp [n0]
    go_enter Try.func7, Try.ntmps7
    go_wp2_with (fail)
    refine (awake_any _).mono ?_
    rintro e v1 ⟨rfl, hb1⟩
    go_wp2_with (fail)
    refine (awake_any _).mono ?_
    rintro e v2 ⟨rfl, hb2⟩
    have H := hidIt (below_then hb1 hb2)
    clear hb1 hb2
    go_wp2_with (fail)
    go_ret
    exact ⟨rfl, H.out⟩
  have n0d : decide (n < 0) = false := by simp only [decide_eq_false_iff_not]; exact n0
  by_cases m0 : m < 0
  · have m0d : decide (m < 0) = true := by simp [m0]
    go_enter Try.func7, Try.ntmps7
    go_wp2_with (fail)
    refine (awake_any _).mono ?_
    rintro e v1 ⟨rfl, hb1⟩
    go_wp2_with (fail)
    refine (awake_any _).mono ?_
    rintro e v2 ⟨rfl, hb2⟩
    have H := hidIt (below_then hb1 hb2)
    clear hb1 hb2
    go_wp2_with (fail)
    go_ret
    exact ⟨rfl, H.out⟩
  have m0d : decide (m < 0) = false := by simp only [decide_eq_false_iff_not]; exact m0
  by_cases n1 : 400 < n
  · have n1d : decide (400 < n) = true := by simp [n1]
    go_enter Try.func7, Try.ntmps7
    go_wp2_with (fail)
    refine (awake_any _).mono ?_
    rintro e v1 ⟨rfl, hb1⟩
    go_wp2_with (fail)
    refine (awake_any _).mono ?_
    rintro e v2 ⟨rfl, hb2⟩
    have H := hidIt (below_then hb1 hb2)
    clear hb1 hb2
    go_wp2_with (fail)
    go_ret
    exact ⟨rfl, H.out⟩
  have n1d : decide (400 < n) = false := by simp only [decide_eq_false_iff_not]; exact n1
  by_cases m1 : 400 < m
  · have m1d : decide (400 < m) = true := by simp [m1]
    go_enter Try.func7, Try.ntmps7
    go_wp2_with (fail)
    refine (awake_any _).mono ?_
    rintro e v1 ⟨rfl, hb1⟩
    go_wp2_with (fail)
    refine (awake_any _).mono ?_
    rintro e v2 ⟨rfl, hb2⟩
    have H := hidIt (below_then hb1 hb2)
    clear hb1 hb2
    go_wp2_with (fail)
    go_ret
    exact ⟨rfl, H.out⟩
  have m1d : decide (400 < m) = false := by simp only [decide_eq_false_iff_not]; exact m1
  by_cases o0 : o < 0
  · have o0d : decide (o < 0) = true := by simp [o0]
    go_enter Try.func7, Try.ntmps7
    go_wp2_with (fail)
    refine (awake_any _).mono ?_
    rintro e v1 ⟨rfl, hb1⟩
    go_wp2_with (fail)
    refine (awake_any _).mono ?_
    rintro e v2 ⟨rfl, hb2⟩
    have H := hidIt (below_then hb1 hb2)
    clear hb1 hb2
    go_wp2_with (fail)
    go_ret
    exact ⟨rfl, H.out⟩
  have o0d : decide (o < 0) = false := by simp only [decide_eq_false_iff_not]; exact o0
  by_cases o1 : 274877906944 < o
  · have o1d : decide (274877906944 < o) = true := by simp [o1]
    go_enter Try.func7, Try.ntmps7
    go_wp2_with (fail)
    refine (awake_any _).mono ?_
    rintro e v1 ⟨rfl, hb1⟩
    go_wp2_with (fail)
    refine (awake_any _).mono ?_
    rintro e v2 ⟨rfl, hb2⟩
    have H := hidIt (below_then hb1 hb2)
    clear hb1 hb2
    go_wp2_with (fail)
    go_ret
    exact ⟨rfl, H.out⟩
  have o1d : decide (274877906944 < o) = false := by simp only [decide_eq_false_iff_not]; exact o1
  obtain ⟨O, rfl⟩ : ∃ O : Nat, o = O := ⟨o.toNat, by omega⟩
  obtain ⟨N, rfl⟩ : ∃ N : Nat, n = N := ⟨n.toNat, by omega⟩
  obtain ⟨M, rfl⟩ : ∃ M : Nat, m = M := ⟨m.toNat, by omega⟩
  obtain ⟨S, hS⟩ : ∃ S, Hid (S = O + N) := ⟨_, rfl⟩
  obtain ⟨U, hU⟩ : ∃ U, Hid (U = N + M) := ⟨_, rfl⟩
  have e1 : (O : Int) + (N : Int) = (S : Int) := by rw [hS.out]; omega
  have e2 : (N : Int) + (M : Int) = (U : Int) := by rw [hU.out]; omega
  have q1 : IntKind.i64.wrap (S : Int) = (S : Int) := IntWalk.i64_in _ (by rw [hS.out]; omega)
  have q2 : IntKind.i64.wrap (U : Int) = (U : Int) := IntWalk.i64_in _ (by rw [hU.out]; omega)
  have p1 : ¬ 400 < N := by omega
  have p2 : ¬ 400 < M := by omega
  have p3 : ¬ 274877906944 < O := by omega
  clear n0 m0 n1 m1 o0 o1
  by_cases hf : key.size = 32 ∧ nonce.size = 12
  · by_cases hl : O + N + M ≤ 274877906944
    · have k1 := hidIt (fun W => stream_ok key nonce O N hf.1 hf.2 (by omega) (by omega) W)
      have k2 := hidIt (fun W => stream_ok key nonce S M hf.1 hf.2 (by omega) (by rw [hS.out]; omega) W)
      have k3 := hidIt (fun W => stream_ok key nonce O U hf.1 hf.2 (by rw [hU.out]; omega) (by rw [hU.out]; omega) W)
      obtain ⟨xs, hxs⟩ : ∃ xs, Hid (Cc.stream (ofStr key) (ofStr nonce) O N = xs) := ⟨_, rfl⟩
      obtain ⟨ys, hys⟩ : ∃ ys, Hid (Cc.stream (ofStr key) (ofStr nonce) S M = ys) := ⟨_, rfl⟩
      have hz : Cc.stream (ofStr key) (ofStr nonce) O U = xs ++ ys := by rw [← hxs.out, ← hys.out, hS.out, hU.out, Cc.stream_append]
      have hxl : Hid (xs.length = N) := by show _ = _; rw [← hxs.out, Cc.stream_len]
      have hyl : Hid (ys.length = M) := by show _ = _; rw [← hys.out, Cc.stream_len]
      have hzl : Hid ((xs ++ ys).length = U) := by show _ = _; rw [← hz, Cc.stream_len]
      rw [hxs.out] at k1
      rw [hys.out] at k2
      rw [hz] at k3
      obtain ⟨sx, hsx⟩ : ∃ s, Hid (str xs = s) := ⟨_, rfl⟩
      obtain ⟨sy, hsy⟩ : ∃ s, Hid (str ys = s) := ⟨_, rfl⟩
      have hsz : Hid (str (xs ++ ys) = sx ++ sy) := by show _ = _; rw [← hsx.out, ← hsy.out, str_append]
      have hcat : ¬ 9223372036854775807 < sx.size + sy.size := by rw [← hsx.out, ← hsy.out, str_size, str_size, hxl.out, hyl.out]; omega
      clear hz hf hl
      go_enter Try.func7, Try.ntmps7
      go_wp2_with (fail)
      refine (awake_any _).mono ?_
      rintro e v1 ⟨rfl, hb1⟩
      have H1 := hidIt hb1
      clear hb1
      go_wp2_with (fail)
      refine (k1.out _).mono ?_
      rintro e v2 ⟨rfl, hby2, hb2⟩
      have H2 := hidIt (below_then H1.out hb2)
      have B2 := hidIt hby2
      clear hb2 hby2
      generalize v1.heap.size = g1 at *
      go_wp2_with (fail)
      refine (k2.out _).mono ?_
      rintro e v3 ⟨rfl, hby3, hb3⟩
      have H3 := hidIt (below_then H2.out hb3)
      have B23 := hidIt (B2.out.below hb3)
      have B3 := hidIt hby3
      clear hb3 hby3 B2
      generalize v2.heap.size = g2 at *
      go_wp2_with (fail)
      refine (k3.out _).mono ?_
      rintro e v4 ⟨rfl, hby4, hb4⟩
      have H4 := hidIt (below_then H3.out hb4)
      have cv1 := conv_str v4 _ N N xs hxl.out.symm (B23.out.below hb4)
      have cv2 := conv_str v4 _ M M ys hyl.out.symm (B3.out.below hb4)
      have cv3 := conv_str v4 _ U U (xs ++ ys) hzl.out.symm hby4
      rw [hsx.out] at cv1
      rw [hsy.out] at cv2
      rw [hsz.out] at cv3
      clear hb4 hby4 B23 B3 H1 H2 H3
      generalize v3.heap.size = g3 at *
      go_wp2_with (fail)
      go_ret
      exact ⟨rfl, H4.out⟩
    · have k3 := hidIt (fun W => stream_large key nonce O U hf.1 hf.2 (by omega) (by omega) (by rw [hU.out]; omega) (by rw [hU.out]; omega) W)
      by_cases hl2 : O + N ≤ 274877906944
      · have k1 := hidIt (fun W => stream_ok key nonce O N hf.1 hf.2 (by omega) (by omega) W)
        have k2 := hidIt (fun W => stream_large key nonce S M hf.1 hf.2 (by omega) (by omega) (by omega) (by rw [hS.out]; omega) W)
        clear hf hl hl2
        go_enter Try.func7, Try.ntmps7
        go_wp2_with (fail)
        refine (awake_any _).mono ?_
        rintro e v1 ⟨rfl, hb1⟩
        have H1 := hidIt hb1
        clear hb1
        go_wp2_with (fail)
        refine (k1.out _).mono ?_
        rintro e v2 ⟨rfl, hby2, hb2⟩
        have H2 := hidIt (below_then H1.out hb2)
        clear hb2 hby2
        generalize v1.heap.size = g1 at *
        go_wp2_with (fail)
        refine (k2.out _).mono ?_
        rintro e v3 ⟨rfl, rfl⟩
        go_wp2_with (fail)
        refine (k3.out _).mono ?_
        rintro e v3 ⟨rfl, rfl⟩
        go_wp2_with (fail)
        go_ret
        exact ⟨rfl, H2.out⟩
      · have k1 := hidIt (fun W => stream_large key nonce O N hf.1 hf.2 (by omega) (by omega) (by omega) (by omega) W)
        have k2 := hidIt (fun W => stream_large key nonce S M hf.1 hf.2 (by omega) (by omega) (by omega) (by rw [hS.out]; omega) W)
        clear hf hl hl2
        go_enter Try.func7, Try.ntmps7
        go_wp2_with (fail)
        refine (awake_any _).mono ?_
        rintro e v1 ⟨rfl, hb1⟩
        have H1 := hidIt hb1
        clear hb1
        go_wp2_with (fail)
        refine (k1.out _).mono ?_
        rintro e v2 ⟨rfl, rfl⟩
        go_wp2_with (fail)
        refine (k2.out _).mono ?_
        rintro e v3 ⟨rfl, rfl⟩
        go_wp2_with (fail)
        refine (k3.out _).mono ?_
        rintro e v3 ⟨rfl, rfl⟩
        go_wp2_with (fail)
        go_ret
        exact ⟨rfl, H1.out⟩
  · have k1 := hidIt (fun W => stream_err key nonce O N (.inl hf) W)
    have k2 := hidIt (fun W => stream_err key nonce S M (.inl hf) W)
    have k3 := hidIt (fun W => stream_err key nonce O U (.inl hf) W)
    clear hf
    go_enter Try.func7, Try.ntmps7
    go_wp2_with (fail)
    refine (awake_any _).mono ?_
    rintro e v1 ⟨rfl, hb1⟩
    have H1 := hidIt hb1
    clear hb1
    go_wp2_with (fail)
    refine (k1.out _).mono ?_
    rintro e v2 ⟨rfl, rfl⟩
    go_wp2_with (fail)
    refine (k2.out _).mono ?_
    rintro e v3 ⟨rfl, rfl⟩
    go_wp2_with (fail)
    refine (k3.out _).mono ?_
    rintro e v3 ⟨rfl, rfl⟩
    go_wp2_with (fail)
    go_ret
    exact ⟨rfl, H1.out⟩
end Go.Proofs.Ytnkemflpenlmgaa
