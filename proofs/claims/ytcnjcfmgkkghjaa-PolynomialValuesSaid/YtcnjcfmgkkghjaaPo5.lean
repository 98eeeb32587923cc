import Derived.Test.YtcnjcfmgkkghjaaPo4
namespace Go.Proofs.Ytcnjcfmgkkghjaa
open Go.RowKit
set_option maxRecDepth 100000 in
theorem mulz1_any (a1 a2 : Option Addr) (n1 n2 c1 c2 : Nat) (xs ys : List Nat) (hn : n1 = xs.length) (hm : n2 = ys.length) (hx : ∀ i, xs.getD i 0 < 256) (hy : ∀ i, ys.getD i 0 < 256) (hb1 : n1 ≤ 140737488355328) (hb2 : n2 ≤ 140737488355328) (h0 : Pl.d1 xs = 0) (w : World) (h1 : Bytes w a1 xs) (h2 : Bytes w a2 ys) :
    Calls Try.prog 33 #[.slice a1 n1 c1, .slice a2 n2 c2] w fun e w' => e = .returned (.tuple #[.slice none 0 0, .int .i64 0]) ∧ Below w.heap.size w w' := by
  obtain ⟨P, hP⟩ : ∃ P, Hid (P = Pl.trim xs) := ⟨_, rfl⟩
  obtain ⟨Q, hQ⟩ : ∃ Q, Hid (Q = Pl.trim ys) := ⟨_, rfl⟩
  obtain ⟨N, hN⟩ : ∃ N, Hid (N = Pl.d1 xs) := ⟨_, rfl⟩
  obtain ⟨M, hM⟩ : ∃ M, Hid (M = Pl.d1 ys) := ⟨_, rfl⟩
  have hPl : Hid (P.length = N) := by show _ = _; rw [hP.out, Pl.trim_len, hN.out]
  have hQl : Hid (Q.length = M) := by show _ = _; rw [hQ.out, Pl.trim_len, hM.out]
  have hPd : Hid (Pl.d1 P = N) := by show _ = _; rw [hP.out, Pl.d1_trim, hN.out]
  have hQd : Hid (Pl.d1 Q = M) := by show _ = _; rw [hQ.out, Pl.d1_trim, hM.out]
  have hPb : Hid (∀ i, P.getD i 0 < 256) := fun i => by rw [hP.out]; exact co_trim_lt hx i
  have hQb : Hid (∀ i, Q.getD i 0 < 256) := fun i => by rw [hQ.out]; exact co_trim_lt hy i
  have n1' := hidIt hn
  have n2' := hidIt hm
  have x2 := hidIt hx
  have y2 := hidIt hy
  have i1 := hidIt h1
  have i2 := hidIt h2
  have q1 : ((N : Int) == 0) = true := by rw [hN.out, h0]; rfl
  clear hn hm hx hy h1 h2 h0
  go_enter Try.func33, Try.ntmps33
  go_wp2_with (fail)
  refine (trim2_any _ _ _ xs n1'.out x2.out hb1 _ i1.out).mono ?_
  rintro e w1 ⟨⟨v1, rfl, hm1⟩, be1⟩
  obtain ⟨g1, rfl, lo1, hi1, by1⟩ := hm1.at N (by rw [Pl.trim_len, hN.out])
  rw [← hP.out] at by1
  have lo1' := hidIt lo1
  have hi1' := hidIt hi1
  have by1' := hidIt by1
  have be1' := hidIt be1
  clear hm1 lo1 hi1 by1 be1
  go_wp2_with (fail)
  refine (trim2_any _ _ _ ys n2'.out y2.out hb2 _ (i2.out.below be1'.out)).mono ?_
  rintro e w2 ⟨⟨v2, rfl, hm2⟩, be2⟩
  obtain ⟨g2, rfl, lo2, hi2, by2⟩ := hm2.at M (by rw [Pl.trim_len, hM.out])
  rw [← hQ.out] at by2
  have lo2' := hidIt lo2
  have hi2' := hidIt hi2
  have by2' := hidIt by2
  have by1' := hidIt (by1'.out.below be2)
  have be2' := hidIt (be1'.out.trans (be2.mono be1'.out.size))
  have hi1' : Hid (g1 < w2.heap.size) := by have := be2.size; have := hi1'.out; show _ < _; omega
  clear hm2 lo2 hi2 by2 be2 be1'
  go_wp2
  go_ret2
  exact ⟨rfl, be2'.out⟩
set_option maxRecDepth 100000 in
theorem mulz2_any (a1 a2 : Option Addr) (n1 n2 c1 c2 : Nat) (xs ys : List Nat) (hn : n1 = xs.length) (hm : n2 = ys.length) (hx : ∀ i, xs.getD i 0 < 256) (hy : ∀ i, ys.getD i 0 < 256) (hb1 : n1 ≤ 140737488355328) (hb2 : n2 ≤ 140737488355328) (h0 : 0 < Pl.d1 xs) (h02 : Pl.d1 ys = 0) (w : World) (h1 : Bytes w a1 xs) (h2 : Bytes w a2 ys) :
    Calls Try.prog 33 #[.slice a1 n1 c1, .slice a2 n2 c2] w fun e w' => e = .returned (.tuple #[.slice none 0 0, .int .i64 0]) ∧ Below w.heap.size w w' := by
  obtain ⟨P, hP⟩ : ∃ P, Hid (P = Pl.trim xs) := ⟨_, rfl⟩
  obtain ⟨Q, hQ⟩ : ∃ Q, Hid (Q = Pl.trim ys) := ⟨_, rfl⟩
  obtain ⟨N, hN⟩ : ∃ N, Hid (N = Pl.d1 xs) := ⟨_, rfl⟩
  obtain ⟨M, hM⟩ : ∃ M, Hid (M = Pl.d1 ys) := ⟨_, rfl⟩
  have hPl : Hid (P.length = N) := by show _ = _; rw [hP.out, Pl.trim_len, hN.out]
  have hQl : Hid (Q.length = M) := by show _ = _; rw [hQ.out, Pl.trim_len, hM.out]
  have hPd : Hid (Pl.d1 P = N) := by show _ = _; rw [hP.out, Pl.d1_trim, hN.out]
  have hQd : Hid (Pl.d1 Q = M) := by show _ = _; rw [hQ.out, Pl.d1_trim, hM.out]
  have hPb : Hid (∀ i, P.getD i 0 < 256) := fun i => by rw [hP.out]; exact co_trim_lt hx i
  have hQb : Hid (∀ i, Q.getD i 0 < 256) := fun i => by rw [hQ.out]; exact co_trim_lt hy i
  have n1' := hidIt hn
  have n2' := hidIt hm
  have x2 := hidIt hx
  have y2 := hidIt hy
  have i1 := hidIt h1
  have i2 := hidIt h2
  have q1 : ((N : Int) == 0) = false := by simp [hN.out]; omega
  have q2 : ((M : Int) == 0) = true := by rw [hM.out, h02]; rfl
  clear hn hm hx hy h1 h2 h0 h02
  go_enter Try.func33, Try.ntmps33
  go_wp2_with (fail)
  refine (trim2_any _ _ _ xs n1'.out x2.out hb1 _ i1.out).mono ?_
  rintro e w1 ⟨⟨v1, rfl, hm1⟩, be1⟩
  obtain ⟨g1, rfl, lo1, hi1, by1⟩ := hm1.at N (by rw [Pl.trim_len, hN.out])
  rw [← hP.out] at by1
  have lo1' := hidIt lo1
  have hi1' := hidIt hi1
  have by1' := hidIt by1
  have be1' := hidIt be1
  clear hm1 lo1 hi1 by1 be1
  go_wp2_with (fail)
  refine (trim2_any _ _ _ ys n2'.out y2.out hb2 _ (i2.out.below be1'.out)).mono ?_
  rintro e w2 ⟨⟨v2, rfl, hm2⟩, be2⟩
  obtain ⟨g2, rfl, lo2, hi2, by2⟩ := hm2.at M (by rw [Pl.trim_len, hM.out])
  rw [← hQ.out] at by2
  have lo2' := hidIt lo2
  have hi2' := hidIt hi2
  have by2' := hidIt by2
  have by1' := hidIt (by1'.out.below be2)
  have be2' := hidIt (be1'.out.trans (be2.mono be1'.out.size))
  have hi1' : Hid (g1 < w2.heap.size) := by have := be2.size; have := hi1'.out; show _ < _; omega
  clear hm2 lo2 hi2 by2 be2 be1'
  go_wp2
  go_ret2
  exact ⟨rfl, be2'.out⟩
set_option maxRecDepth 100000 in
theorem mull_any (a1 a2 : Option Addr) (n1 n2 c1 c2 : Nat) (xs ys : List Nat) (hn : n1 = xs.length) (hm : n2 = ys.length) (hx : ∀ i, xs.getD i 0 < 256) (hy : ∀ i, ys.getD i 0 < 256) (hb1 : n1 ≤ 140737488355328) (hb2 : n2 ≤ 140737488355328) (h01 : 0 < Pl.d1 xs) (h02 : 0 < Pl.d1 ys) (hdeg : 1025 < Pl.d1 xs + Pl.d1 ys) (w : World) (h1 : Bytes w a1 xs) (h2 : Bytes w a2 ys) :
    Calls Try.prog 33 #[.slice a1 n1 c1, .slice a2 n2 c2] w fun e w' => e = .returned (.tuple #[.slice none 0 0, .int .i64 2]) ∧ Below w.heap.size w w' := by
  obtain ⟨P, hP⟩ : ∃ P, Hid (P = Pl.trim xs) := ⟨_, rfl⟩
  obtain ⟨Q, hQ⟩ : ∃ Q, Hid (Q = Pl.trim ys) := ⟨_, rfl⟩
  obtain ⟨N, hN⟩ : ∃ N, Hid (N = Pl.d1 xs) := ⟨_, rfl⟩
  obtain ⟨M, hM⟩ : ∃ M, Hid (M = Pl.d1 ys) := ⟨_, rfl⟩
  have hPl : Hid (P.length = N) := by show _ = _; rw [hP.out, Pl.trim_len, hN.out]
  have hQl : Hid (Q.length = M) := by show _ = _; rw [hQ.out, Pl.trim_len, hM.out]
  have hPd : Hid (Pl.d1 P = N) := by show _ = _; rw [hP.out, Pl.d1_trim, hN.out]
  have hQd : Hid (Pl.d1 Q = M) := by show _ = _; rw [hQ.out, Pl.d1_trim, hM.out]
  have hPb : Hid (∀ i, P.getD i 0 < 256) := fun i => by rw [hP.out]; exact co_trim_lt hx i
  have hQb : Hid (∀ i, Q.getD i 0 < 256) := fun i => by rw [hQ.out]; exact co_trim_lt hy i
  have n1' := hidIt hn
  have n2' := hidIt hm
  have x2 := hidIt hx
  have y2 := hidIt hy
  have i1 := hidIt h1
  have i2 := hidIt h2
  have f1 : 0 < N := by rw [hN.out]; exact h01
  have f2 : 0 < M := by rw [hM.out]; exact h02
  have f3 : 1025 < N + M := by rw [hN.out, hM.out]; exact hdeg
  have p0 : N ≤ 140737488355328 := by have := Pl.d1_le xs; rw [hN.out]; omega
  have p1 : M ≤ 140737488355328 := by have := Pl.d1_le ys; rw [hM.out]; omega
  have q1 : ((N : Int) == 0) = false := by simp; omega
  have q2 : ((M : Int) == 0) = false := by simp; omega
  have q3 : (N : Int) - 1 + ((M : Int) - 1) = (N : Int) + M - 2 := by omega
  clear hn hm hx hy h1 h2 h01 h02 hdeg
  go_enter Try.func33, Try.ntmps33
  go_wp2_with (fail)
  refine (trim2_any _ _ _ xs n1'.out x2.out hb1 _ i1.out).mono ?_
  rintro e w1 ⟨⟨v1, rfl, hm1⟩, be1⟩
  obtain ⟨g1, rfl, lo1, hi1, by1⟩ := hm1.at N (by rw [Pl.trim_len, hN.out])
  rw [← hP.out] at by1
  have lo1' := hidIt lo1
  have hi1' := hidIt hi1
  have by1' := hidIt by1
  have be1' := hidIt be1
  clear hm1 lo1 hi1 by1 be1
  go_wp2_with (fail)
  refine (trim2_any _ _ _ ys n2'.out y2.out hb2 _ (i2.out.below be1'.out)).mono ?_
  rintro e w2 ⟨⟨v2, rfl, hm2⟩, be2⟩
  obtain ⟨g2, rfl, lo2, hi2, by2⟩ := hm2.at M (by rw [Pl.trim_len, hM.out])
  rw [← hQ.out] at by2
  have lo2' := hidIt lo2
  have hi2' := hidIt hi2
  have by2' := hidIt by2
  have by1' := hidIt (by1'.out.below be2)
  have be2' := hidIt (be1'.out.trans (be2.mono be1'.out.size))
  have hi1' : Hid (g1 < w2.heap.size) := by have := be2.size; have := hi1'.out; show _ < _; omega
  clear hm2 lo2 hi2 by2 be2 be1'
  go_wp2_with (fail)
  refine (degree_any _ _ _ P hPl.out.symm hPb.out p0 _ by1'.out).mono ?_
  rintro e w3 ⟨rfl, rfl⟩
  rw [hPd.out]
  go_wp2_with (fail)
  refine (degree_any _ _ _ Q hQl.out.symm hQb.out p1 _ by2'.out).mono ?_
  rintro e w3 ⟨rfl, rfl⟩
  rw [hQd.out]
  go_wp2
  go_ret2
  exact ⟨rfl, be2'.out⟩
end Go.Proofs.Ytcnjcfmgkkghjaa
