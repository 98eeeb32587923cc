import Derived.Test.YtfdbdhknamkipaaReadI
namespace Go.Proofs.Ytfdbdhknamkipaa
open Go.RowKit
theorem En.numF_lt (f : Nat) : ∀ i acc l n k, acc < 2 ^ (7 * i) → i + f ≤ 10 → En.numF f i acc l = some (n, k) → n < 2 ^ 64 := by
  induction f with
  | zero => intro i acc l n k _ _ h; simp [En.numF] at h
  | succ f ih =>
    intro i acc l n k ha hi h
    cases l with
    | nil => simp [En.numF] at h
    | cons b rest =>
      unfold En.numF at h
      split at h
      · cases h
      · rename_i hfit
        have hstep : acc + (b % 128) * 2 ^ (7 * i) < 2 ^ (7 * (i + 1)) := by
          have h1 : b % 128 ≤ 127 := by omega
          have h2 := Nat.mul_le_mul_right (2 ^ (7 * i)) h1
          rw [show 7 * (i + 1) = 7 * i + 7 by omega, Nat.pow_add]
          omega
        split at h
        · split at h
          · cases h
          · simp only [Option.some.injEq, Prod.mk.injEq] at h
            obtain ⟨rfl, _⟩ := h
            have h64 : (2 : Nat) ^ 64 = 2 ^ (64 - 7 * i) * 2 ^ (7 * i) := by rw [← Nat.pow_add]; congr 1; omega
            have h3 : (b % 128) * 2 ^ (7 * i) < 2 ^ (64 - 7 * i) * 2 ^ (7 * i) := by omega
            have h4 := Nat.lt_of_mul_lt_mul_right h3
            have h5 : (b % 128 + 1) * 2 ^ (7 * i) ≤ 2 ^ (64 - 7 * i) * 2 ^ (7 * i) := Nat.mul_le_mul_right _ h4
            rw [Nat.add_mul] at h5
            omega
        · exact ih _ _ _ _ _ hstep (by omega) h
theorem En.num_lt {l : List Nat} {n k : Nat} (h : En.num l = some (n, k)) : n < 18446744073709551616 := by
  have := En.numF_lt 10 0 0 l n k (by decide) (by decide) h
  simpa using this
theorem readU_err (R : Nat) (a : Option Addr) (cap : Nat) (bs : List Nat) (pos last err : Nat) (fv : Value) (he : err ≠ 0) (w : World) (h : RD w R a cap bs pos last err) :
    Calls Try.prog 46 #[.pointer (some ⟨R, 0, none⟩), fv] w fun e w' => e = .returned (.int .u64 0) ∧ RD w' R a cap bs pos last err ∧ Below w.heap.size w w' := by
  have hR := h.lt
  have c3 := h.c3
  have hne : ((err : Int) != 0) = true := by simp; omega
  have hA := h.alloc (.cells #[.pointer (some ⟨R, 0, none⟩)] 30)
  have hB := (Below.refl w.heap.size w).alloc (Nat.le_refl _) (.cells #[.pointer (some ⟨R, 0, none⟩)] 30)
  go_enter_defers Try.func46, Try.ntmps46
  go_wp2_with (fail)
  exact ⟨_, results_tmp rfl _ _ _, rfl, hA, hB⟩
theorem readB_err (R : Nat) (a : Option Addr) (cap : Nat) (bs : List Nat) (pos last err : Nat) (fv : Value) (he : err ≠ 0) (w : World) (h : RD w R a cap bs pos last err) :
    Calls Try.prog 48 #[.pointer (some ⟨R, 0, none⟩), fv] w fun e w' => e = .returned (.bool false) ∧ RD w' R a cap bs pos last err ∧ Below w.heap.size w w' := by
  have hR := h.lt
  have c3 := h.c3
  have hne : ((err : Int) != 0) = true := by simp; omega
  have hA := h.alloc (.cells #[.pointer (some ⟨R, 0, none⟩)] 30)
  have hB := (Below.refl w.heap.size w).alloc (Nat.le_refl _) (.cells #[.pointer (some ⟨R, 0, none⟩)] 30)
  go_enter_defers Try.func48, Try.ntmps48
  go_wp2_with (fail)
  exact ⟨_, results_tmp rfl _ _ _, rfl, hA, hB⟩
theorem readI_err (R : Nat) (a : Option Addr) (cap : Nat) (bs : List Nat) (pos last err : Nat) (fv : Value) (he : err ≠ 0) (w : World) (h : RD w R a cap bs pos last err) :
    Calls Try.prog 59 #[.pointer (some ⟨R, 0, none⟩), fv] w fun e w' => e = .returned (.int .i64 0) ∧ RD w' R a cap bs pos last err ∧ Below w.heap.size w w' := by
  have hR := h.lt
  have c3 := h.c3
  have hne : ((err : Int) != 0) = true := by simp; omega
  have hA := h.alloc (.cells #[.pointer (some ⟨R, 0, none⟩)] 30)
  have hB := (Below.refl w.heap.size w).alloc (Nat.le_refl _) (.cells #[.pointer (some ⟨R, 0, none⟩)] 30)
  go_enter_defers Try.func59, Try.ntmps59
  go_wp2_with (fail)
  exact ⟨_, results_tmp rfl _ _ _, rfl, hA, hB⟩
theorem readS_err (R : Nat) (a : Option Addr) (cap : Nat) (bs : List Nat) (pos last err : Nat) (fv : Value) (he : err ≠ 0) (w : World) (h : RD w R a cap bs pos last err) :
    Calls Try.prog 52 #[.pointer (some ⟨R, 0, none⟩), fv] w fun e w' => e = .returned (.slice none 0 0) ∧ RD w' R a cap bs pos last err ∧ Below w.heap.size w w' := by
  have hR := h.lt
  have c3 := h.c3
  have hne : ((err : Int) != 0) = true := by simp; omega
  have hA := h.alloc (.cells #[.pointer (some ⟨R, 0, none⟩)] 30)
  have hB := (Below.refl w.heap.size w).alloc (Nat.le_refl _) (.cells #[.pointer (some ⟨R, 0, none⟩)] 30)
  go_enter_defers Try.func52, Try.ntmps52
  go_wp2_with (fail)
  exact ⟨_, results_tmp rfl _ _ _, rfl, hA, hB⟩
theorem readT_err (R : Nat) (a : Option Addr) (cap : Nat) (bs : List Nat) (pos last err : Nat) (fv : Value) (he : err ≠ 0) (w : World) (h : RD w R a cap bs pos last err) :
    Calls Try.prog 55 #[.pointer (some ⟨R, 0, none⟩), fv] w fun e w' => e = .returned (.string ByteArray.empty) ∧ RD w' R a cap bs pos last err ∧ Below w.heap.size w w' := by
  have hR := h.lt
  have c3 := h.c3
  have hne : ((err : Int) != 0) = true := by simp; omega
  have hA := h.alloc (.cells #[.pointer (some ⟨R, 0, none⟩)] 30)
  have hB := (Below.refl w.heap.size w).alloc (Nat.le_refl _) (.cells #[.pointer (some ⟨R, 0, none⟩)] 30)
  go_enter_defers Try.func55, Try.ntmps55
  go_wp2_with (fail)
  exact ⟨_, results_tmp rfl _ _ _, rfl, hA, hB⟩
theorem rUint_err (R : Nat) (a : Option Addr) (cap : Nat) (bs : List Nat) (pos last err : Nat) (he : err ≠ 0) (w : World) (h : RD w R a cap bs pos last err) :
    Calls Try.prog 27 #[.pointer (some ⟨R, 0, none⟩)] w fun e w' => e = .returned (.int .u64 0) ∧ RD w' R a cap bs pos last err ∧ Below w.heap.size w w' := by
  have hmf : ∀ (fn : Fn) (first cap : Array Value) (w : World), (Instr.makeFunc fn first cap).run Try.prog w = .ok (.func fn first cap) w := fun _ _ _ _ => rfl
  go_enter Try.func27, Try.ntmps27
  go_wp2_with (fail)
  refine (readU_err R a cap bs pos last err _ he _ h).mono ?_
  rintro e w1 ⟨rfl, hr, hb⟩
  go_wp2_with (fail)
  go_ret
  exact ⟨rfl, hr, hb⟩
theorem rBool_err (R : Nat) (a : Option Addr) (cap : Nat) (bs : List Nat) (pos last err : Nat) (he : err ≠ 0) (w : World) (h : RD w R a cap bs pos last err) :
    Calls Try.prog 28 #[.pointer (some ⟨R, 0, none⟩)] w fun e w' => e = .returned (.bool false) ∧ RD w' R a cap bs pos last err ∧ Below w.heap.size w w' := by
  have hmf : ∀ (fn : Fn) (first cap : Array Value) (w : World), (Instr.makeFunc fn first cap).run Try.prog w = .ok (.func fn first cap) w := fun _ _ _ _ => rfl
  go_enter Try.func28, Try.ntmps28
  go_wp2_with (fail)
  refine (readB_err R a cap bs pos last err _ he _ h).mono ?_
  rintro e w1 ⟨rfl, hr, hb⟩
  go_wp2_with (fail)
  go_ret
  exact ⟨rfl, hr, hb⟩
theorem rBytes_err (R : Nat) (a : Option Addr) (cap : Nat) (bs : List Nat) (pos last err : Nat) (most : Int) (he : err ≠ 0) (w : World) (h : RD w R a cap bs pos last err) :
    Calls Try.prog 35 #[.pointer (some ⟨R, 0, none⟩), .int .i64 most] w fun e w' => e = .returned (.slice none 0 0) ∧ RD w' R a cap bs pos last err ∧ Below w.heap.size w w' := by
  have hmf : ∀ (fn : Fn) (first cap : Array Value) (w : World), (Instr.makeFunc fn first cap).run Try.prog w = .ok (.func fn first cap) w := fun _ _ _ _ => rfl
  have hA : RD ((w.alloc (.cells #[.pointer (some ⟨R, 0, none⟩)] 30)).alloc (.cells #[.int .i64 most] 3)) R a cap bs pos last err := (h.alloc _).alloc _
  have hB : Below w.heap.size w ((w.alloc (.cells #[.pointer (some ⟨R, 0, none⟩)] 30)).alloc (.cells #[.int .i64 most] 3)) := ((Below.refl _ _).alloc (Nat.le_refl _) _).alloc (by simp) _
  go_enter Try.func35, Try.ntmps35
  go_wp2_with (fail)
  refine (readS_err R a cap bs pos last err _ he _ hA).mono ?_
  rintro e w1 ⟨rfl, hr, hb⟩
  go_wp2_with (fail)
  go_ret
  exact ⟨rfl, hr, hB.trans (hb.mono hB.size)⟩
theorem rText_err (R : Nat) (a : Option Addr) (cap : Nat) (bs : List Nat) (pos last err : Nat) (most : Int) (he : err ≠ 0) (w : World) (h : RD w R a cap bs pos last err) :
    Calls Try.prog 36 #[.pointer (some ⟨R, 0, none⟩), .int .i64 most] w fun e w' => e = .returned (.string ByteArray.empty) ∧ RD w' R a cap bs pos last err ∧ Below w.heap.size w w' := by
  have hmf : ∀ (fn : Fn) (first cap : Array Value) (w : World), (Instr.makeFunc fn first cap).run Try.prog w = .ok (.func fn first cap) w := fun _ _ _ _ => rfl
  have hA : RD ((w.alloc (.cells #[.pointer (some ⟨R, 0, none⟩)] 30)).alloc (.cells #[.int .i64 most] 3)) R a cap bs pos last err := (h.alloc _).alloc _
  have hB : Below w.heap.size w ((w.alloc (.cells #[.pointer (some ⟨R, 0, none⟩)] 30)).alloc (.cells #[.int .i64 most] 3)) := ((Below.refl _ _).alloc (Nat.le_refl _) _).alloc (by simp) _
  go_enter Try.func36, Try.ntmps36
  go_wp2_with (fail)
  refine (readT_err R a cap bs pos last err _ he _ hA).mono ?_
  rintro e w1 ⟨rfl, hr, hb⟩
  go_wp2_with (fail)
  go_ret
  exact ⟨rfl, hr, hB.trans (hb.mono hB.size)⟩
theorem rCount_err (R : Nat) (a : Option Addr) (cap : Nat) (bs : List Nat) (pos last err : Nat) (most : Int) (he : err ≠ 0) (w : World) (h : RD w R a cap bs pos last err) :
    Calls Try.prog 38 #[.pointer (some ⟨R, 0, none⟩), .int .i64 most] w fun e w' => e = .returned (.int .i64 0) ∧ RD w' R a cap bs pos last err ∧ Below w.heap.size w w' := by
  have hmf : ∀ (fn : Fn) (first cap : Array Value) (w : World), (Instr.makeFunc fn first cap).run Try.prog w = .ok (.func fn first cap) w := fun _ _ _ _ => rfl
  have hA : RD ((w.alloc (.cells #[.pointer (some ⟨R, 0, none⟩)] 30)).alloc (.cells #[.int .i64 most] 3)) R a cap bs pos last err := (h.alloc _).alloc _
  have hB : Below w.heap.size w ((w.alloc (.cells #[.pointer (some ⟨R, 0, none⟩)] 30)).alloc (.cells #[.int .i64 most] 3)) := ((Below.refl _ _).alloc (Nat.le_refl _) _).alloc (by simp) _
  go_enter Try.func38, Try.ntmps38
  go_wp2_with (fail)
  refine (readI_err R a cap bs pos last err _ he _ hA).mono ?_
  rintro e w1 ⟨rfl, hr, hb⟩
  go_wp2_with (fail)
  go_ret
  exact ⟨rfl, hr, hB.trans (hb.mono hB.size)⟩
theorem rSum_err (R : Nat) (a : Option Addr) (cap : Nat) (bs : List Nat) (pos last err : Nat) (he : err ≠ 0) (w : World) (h : RD w R a cap bs pos last err) :
    Calls Try.prog 37 #[.pointer (some ⟨R, 0, none⟩)] w fun e w' => e = .returned (.string ByteArray.empty) ∧ RD w' R a cap bs pos last err ∧ Below w.heap.size w w' := by
  have hmf : ∀ (fn : Fn) (first cap : Array Value) (w : World), (Instr.makeFunc fn first cap).run Try.prog w = .ok (.func fn first cap) w := fun _ _ _ _ => rfl
  have hA : RD (w.alloc (.cells #[.pointer (some ⟨R, 0, none⟩)] 30)) R a cap bs pos last err := h.alloc _
  have hB : Below w.heap.size w (w.alloc (.cells #[.pointer (some ⟨R, 0, none⟩)] 30)) := (Below.refl _ _).alloc (Nat.le_refl _) _
  go_enter Try.func37, Try.ntmps37
  go_wp2_with (fail)
  refine (readT_err R a cap bs pos last err _ he _ hA).mono ?_
  rintro e w1 ⟨rfl, hr, hb⟩
  go_wp2_with (fail)
  go_ret
  exact ⟨rfl, hr, hB.trans (hb.mono hB.size)⟩
theorem rInt_err (R : Nat) (a : Option Addr) (cap : Nat) (bs : List Nat) (pos last err : Nat) (he : err ≠ 0) (w : World) (h : RD w R a cap bs pos last err) :
    Calls Try.prog 34 #[.pointer (some ⟨R, 0, none⟩)] w fun e w' => e = .returned (.int .i64 0) ∧ RD w' R a cap bs pos last err ∧ Below w.heap.size w w' := by
  go_enter Try.func34, Try.ntmps34
  go_wp2_with (fail)
  refine (rUint_err R a cap bs pos last err he _ h).mono ?_
  rintro e w1 ⟨rfl, hr, hb⟩
  go_wp2_with (fail)
  refine (unzigzag_any 0 (by decide) _).mono ?_
  rintro e w2 ⟨rfl, rfl⟩
  rw [show unzig 0 = 0 by decide +kernel]
  go_wp2_with (fail)
  go_ret
  exact ⟨rfl, hr, hb⟩
theorem rInt_any (R : Nat) (a : Option Addr) (cap : Nat) (bs : List Nat) (pos last : Nat) (w : World) (h : RD w R a cap bs pos last 0) (hb : ∀ x ∈ bs, x < 256) :
    Calls Try.prog 34 #[.pointer (some ⟨R, 0, none⟩)] w fun e w' => w.grownBy w' (some R) ∧ (match En.num (bs.drop pos) with
      | some (n, k) => e = .returned (.int .i64 (unzig n)) ∧ RD w' R a cap bs (pos + k) pos 0
      | none => e = .returned (.int .i64 0) ∧ RD w' R a cap bs pos pos 3) := by
  have hc := rUint_any R a cap bs pos last w h hb
  cases hn : En.num (bs.drop pos) with
  | none =>
    rw [hn] at hc
    have hc2 := hidIt hc
    clear hc hn
    go_enter Try.func34, Try.ntmps34
    go_wp2_with (fail)
    refine hc2.out.mono ?_
    rintro e w1 ⟨hg, rfl, hr⟩
    go_wp2_with (fail)
    refine (unzigzag_any 0 (by decide) _).mono ?_
    rintro e w2 ⟨rfl, rfl⟩
    rw [show unzig 0 = 0 by decide +kernel]
    go_wp2_with (fail)
    go_ret
    exact ⟨hg, rfl, hr⟩
  | some r =>
    obtain ⟨n, k⟩ := r
    have hlt := En.num_lt hn
    rw [hn] at hc
    have hc2 := hidIt hc
    clear hc hn
    go_enter Try.func34, Try.ntmps34
    go_wp2_with (fail)
    refine hc2.out.mono ?_
    rintro e w1 ⟨hg, rfl, hr⟩
    go_wp2_with (fail)
    refine (unzigzag_any n hlt _).mono ?_
    rintro e w2 ⟨rfl, rfl⟩
    go_wp2_with (fail)
    go_ret
    exact ⟨hg, rfl, hr⟩
theorem fail_ok (R : Nat) (a : Option Addr) (cap : Nat) (bs : List Nat) (pos last : Nat) (w : World) (h : RD w R a cap bs pos last 0) :
    Calls Try.prog 24 #[.pointer (some ⟨R, 0, none⟩)] w fun e w' => e = .returned (.tuple #[]) ∧ RD w' R a cap bs last last 3 ∧ w.grownBy w' (some R) := by
  have c1 := h.c1
  have c2 := h.c2
  have c3 := h.c3
  have z1 := h.fz 1
  have z3 := h.fz 3
  go_enter Try.func24, Try.ntmps24
  go_wp2_with (fail)
  go_end0
  exact ⟨rfl, (h.setPos last rfl h.lastle).setErr 3 rfl, g_set (g_set (g_refl _ _))⟩
theorem fail_err (R : Nat) (a : Option Addr) (cap : Nat) (bs : List Nat) (pos last err : Nat) (he : err ≠ 0) (w : World) (h : RD w R a cap bs pos last err) :
    Calls Try.prog 24 #[.pointer (some ⟨R, 0, none⟩)] w fun e w' => e = .returned (.tuple #[]) ∧ w = w' := by
  have c3 := h.c3
  have hne : ((err : Int) == 0) = false := by simp; omega
  go_enter Try.func24, Try.ntmps24
  go_wp2_with (fail)
  go_end0
  exact ⟨rfl, rfl⟩
end Go.Proofs.Ytfdbdhknamkipaa
