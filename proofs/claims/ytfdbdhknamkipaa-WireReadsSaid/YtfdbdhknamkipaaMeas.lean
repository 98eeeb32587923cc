import Derived.Test.YtfdbdhknamkipaaClone2
namespace Go.Proofs.Ytfdbdhknamkipaa
open Go.RowKit
theorem limited_err (R : Nat) (a : Option Addr) (cap : Nat) (bs : List Nat) (pos last er : Nat) (most : Int) (hm1 : -9223372036854775808 ≤ most) (hm2 : most ≤ 9223372036854775807) (w : World) (h : RD w R a cap bs pos last 0) (hb : ∀ x ∈ bs, x < 256) (hn : limit bs pos most = .inl er) :
    Calls Try.prog 61 #[.pointer (some ⟨R, 0, none⟩), .int .i64 most] w fun e w' => ∃ p, e = .returned (.tuple #[.int .i64 0, .int .i64 er]) ∧ RD w' R a cap bs p last 0 ∧ w.grownBy w' (some R) := by
  refine (limited_any R a cap bs pos last most hm1 hm2 w h hb).mono ?_
  rw [hn]
  exact fun e w' ⟨hg, he, p, hr⟩ => ⟨p, he, hr, hg⟩
theorem limited_ok (R : Nat) (a : Option Addr) (cap : Nat) (bs : List Nat) (pos last n k : Nat) (most : Int) (hm1 : -9223372036854775808 ≤ most) (hm2 : most ≤ 9223372036854775807) (w : World) (h : RD w R a cap bs pos last 0) (hb : ∀ x ∈ bs, x < 256) (hn : limit bs pos most = .inr (n, k)) :
    Calls Try.prog 61 #[.pointer (some ⟨R, 0, none⟩), .int .i64 most] w fun e w' => e = .returned (.tuple #[.int .i64 n, .int .i64 0]) ∧ RD w' R a cap bs (pos + k) last 0 ∧ w.grownBy w' (some R) := by
  refine (limited_any R a cap bs pos last most hm1 hm2 w h hb).mono ?_
  rw [hn]
  exact fun e w' ⟨hg, he, hr⟩ => ⟨he, hr, hg⟩
theorem measured_err (R : Nat) (a : Option Addr) (cap : Nat) (bs : List Nat) (pos last er : Nat) (most : Int) (hm1 : -9223372036854775808 ≤ most) (hm2 : most ≤ 9223372036854775807) (w : World) (h : RD w R a cap bs pos last 0) (hb : ∀ x ∈ bs, x < 256) (hn : measure bs pos most = .inl er) :
    Calls Try.prog 54 #[.pointer (some ⟨R, 0, none⟩), .int .i64 most] w fun e w' => ∃ p, e = .returned (.tuple #[.slice none 0 0, .int .i64 er]) ∧ RD w' R a cap bs p last 0 ∧ w.grownBy w' (some R) := by
  unfold measure at hn
  cases hl : limit bs pos most with
  | inl er' =>
    rw [hl] at hn
    simp only [Sum.inl.injEq] at hn
    subst hn
    have hor := limit_err hl
    have hl2 := hidIt hl
    clear hl
    rcases hor with rfl | rfl
    all_goals
      go_enter Try.func54, Try.ntmps54
      go_wp2_with (fail)
      refine (limited_err R a cap bs pos last _ most hm1 hm2 _ h hb hl2.out).mono ?_
      rintro e w1 ⟨p, rfl, hr, hg⟩
      go_wp2_with (fail)
      go_ret2
      exact ⟨p, rfl, hr, hg⟩
  | inr r =>
    obtain ⟨n, k⟩ := r
    rw [hl] at hn
    simp only at hn
    split at hn
    · rename_i hsh
      simp only [Sum.inl.injEq] at hn
      subst hn
      have hl2 := hidIt hl
      have hsh2 := hidIt hsh
      clear hl hsh
      go_enter Try.func54, Try.ntmps54
      go_wp2_with (fail)
      refine (limited_ok R a cap bs pos last n k most hm1 hm2 _ h hb hl2.out).mono ?_
      rintro e w1 ⟨rfl, hr, hg⟩
      go_wp2_with (fail)
      refine (next_short R a cap bs (pos + k) last 0 n _ hr hsh2.out).mono ?_
      rintro e w2 ⟨rfl, m, rfl⟩
      go_wp2_with (fail)
      go_ret2
      exact ⟨_, rfl, hr.drewN, g_drewN hg _⟩
    · cases hn
theorem measured_ok (R : Nat) (a : Option Addr) (cap : Nat) (bs : List Nat) (pos last at' n : Nat) (most : Int) (hm1 : -9223372036854775808 ≤ most) (hm2 : most ≤ 9223372036854775807) (w : World) (h : RD w R a cap bs pos last 0) (hb : ∀ x ∈ bs, x < 256) (hn : measure bs pos most = .inr (at', n)) :
    Calls Try.prog 54 #[.pointer (some ⟨R, 0, none⟩), .int .i64 most] w fun e w' => ∃ a' c', e = .returned (.tuple #[.slice a' n c', .int .i64 0]) ∧ Bytes w' a' ((bs.drop at').take n) ∧ RD w' R a cap bs (at' + n) last 0 ∧ w.grownBy w' (some R) := by
  unfold measure at hn
  cases hl : limit bs pos most with
  | inl er' => rw [hl] at hn; cases hn
  | inr r =>
    obtain ⟨n', k⟩ := r
    rw [hl] at hn
    simp only at hn
    split at hn
    · cases hn
    · rename_i hsh
      simp only [Sum.inr.injEq, Prod.mk.injEq] at hn
      obtain ⟨rfl, rfl⟩ := hn
      have hl2 := hidIt hl
      have hsh2 := hidIt hsh
      clear hl hsh
      go_enter Try.func54, Try.ntmps54
      go_wp2_with (fail)
      refine (limited_ok R a cap bs pos last n' k most hm1 hm2 _ h hb hl2.out).mono ?_
      rintro e w1 ⟨rfl, hr, hg⟩
      go_wp2_with (fail)
      refine (next_ok R a cap bs (pos + k) last 0 n' _ hr (by have := hsh2.out; omega)).mono ?_
      rintro e w2 ⟨a', c', rfl, hby, hr2, hg2⟩
      go_wp2_with (fail)
      go_ret2
      exact ⟨a', c', rfl, hby, hr2, g_trans hg hg2⟩
theorem grown_weak {a b : World} {r : Option Nat} (h : a.grownBy b none) : a.grownBy b r := ⟨h.os, h.tape, h.output, h.size, fun i hi _ => h.block i hi (by simp)⟩
theorem RD.below {w wr : World} {R : Nat} {a : Option Addr} {cap : Nat} {bs : List Nat} {pos last err : Nat} (h : RD w R a cap bs pos last err) (hb : Below w.heap.size w wr) : RD wr R a cap bs pos last err :=
  ⟨(hb.block R h.lt).trans h.row, h.bytes.below hb, h.ne, h.le, h.lastle, h.capge, h.capm⟩
theorem clone_nil (w : World) : Calls Try.prog 33 #[.slice none 0 0] w fun e w' => e = .returned (.slice none 0 0) ∧ w = w' := by
  have hq : (binOp .eql 25 (.slice none 0 0) (.slice none 0 0)).run Try.prog w = .ok (.bool true) w := Lib.run_eql_slice_nil (P := Try.prog) w 25 5 none 0 0 0 0 Try.underlying25
  go_enter Try.func33, Try.ntmps33
  go_wp2_with (fail)
  go_ret
  exact ⟨rfl, rfl⟩
theorem bytesDec_err (B0 B1 R : Nat) (a : Option Addr) (cap : Nat) (bs : List Nat) (pos last er : Nat) (most : Int) (hm1 : -9223372036854775808 ≤ most) (hm2 : most ≤ 9223372036854775807) (w : World) (h0 : w.cell? ⟨B0, 0, none⟩ = some (.pointer (some ⟨R, 0, none⟩))) (h1 : w.cell? ⟨B1, 0, none⟩ = some (.int .i64 most)) (h : RD w R a cap bs pos last 0) (hb : ∀ x ∈ bs, x < 256) (hn : measure bs pos most = .inl er) :
    Calls Try.prog 53 #[.pointer (some ⟨B0, 0, none⟩), .pointer (some ⟨B1, 0, none⟩)] w fun e w' => ∃ p, e = .returned (.tuple #[.slice none 0 0, .int .i64 er]) ∧ RD w' R a cap bs p last 0 ∧ w.grownBy w' (some R) := by
  go_enter Try.func53, Try.ntmps53
  go_wp2_with (fail)
  refine (measured_err R a cap bs pos last er most hm1 hm2 _ h hb hn).mono ?_
  rintro e w1 ⟨p, rfl, hr, hg⟩
  go_wp2_with (fail)
  refine (clone_nil _).mono ?_
  rintro e w2 ⟨rfl, rfl⟩
  go_wp2_with (fail)
  go_ret2
  exact ⟨p, rfl, hr, hg⟩
theorem bytesDec_ok (B0 B1 R : Nat) (a : Option Addr) (cap : Nat) (bs : List Nat) (pos last at' n : Nat) (most : Int) (hm1 : -9223372036854775808 ≤ most) (hm2 : most ≤ 9223372036854775807) (w : World) (h0 : w.cell? ⟨B0, 0, none⟩ = some (.pointer (some ⟨R, 0, none⟩))) (h1 : w.cell? ⟨B1, 0, none⟩ = some (.int .i64 most)) (h : RD w R a cap bs pos last 0) (hb : ∀ x ∈ bs, x < 256) (hsz : bs.length ≤ 140737488355328) (hn : measure bs pos most = .inr (at', n)) :
    Calls Try.prog 53 #[.pointer (some ⟨B0, 0, none⟩), .pointer (some ⟨B1, 0, none⟩)] w fun e w' => ∃ a' c', e = .returned (.tuple #[.slice a' n c', .int .i64 0]) ∧ w'.ownsRow w.heap.size 5 1 (.slice a' n c') n (vals ((bs.drop at').take n)) ∧ RD w' R a cap bs (at' + n) last 0 ∧ w.grownBy w' (some R) := by
  have hok := measure_ok hn
  have hlen : ((bs.drop at').take n).length = n := by simp; omega
  have hhl := hidIt hlen
  generalize hds : (bs.drop at').take n = ds at *
  have hds2 := hidIt hds
  clear hds hlen
  go_enter Try.func53, Try.ntmps53
  go_wp2_with (fail)
  refine (measured_ok R a cap bs pos last at' n most hm1 hm2 _ h hb hn).mono ?_
  rintro e w1 ⟨a', c', rfl, hby, hr, hg⟩
  rw [hds2.out] at hby
  have hc := clone2_any a' c' w.heap.size ds (by rw [hhl.out]; omega) w1 hby hg.size
  rw [hhl.out] at hc
  go_wp2_with (fail)
  refine hc.mono ?_
  rintro e w2 ⟨a2, c2, rfl, ho, hb2⟩
  go_wp2_with (fail)
  go_ret2
  exact ⟨a2, c2, rfl, ho, hr.below hb2, g_trans hg (g_below hb2)⟩
end Go.Proofs.Ytfdbdhknamkipaa
