import Derived.Test.YtcnjcfmgkkghjaaPl
namespace Go.Proofs.Ytcnjcfmgkkghjaa.Pl
open Gf
theorem pw_add {x : Nat} (hx : x < 256) (i k : Nat) : pw x (i + k) = mul (pw x i) (pw x k) := by
  induction k with
  | zero => exact (mul_one (pw_lt x i)).symm
  | succ k ih =>
    show mul (pw x (i + k)) x = mul (pw x i) (mul (pw x k) x)
    rw [ih, mul_assoc (pw_lt x i) (pw_lt x k) hx]
/-- the value at x, of the first n coefficients -/
def ev (f : Nat → Nat) (x n : Nat) : Nat := S (fun i => mul (f i) (pw x i)) n
theorem ev_lt {f : Nat → Nat} (hf : ∀ i, f i < 256) (x n : Nat) : ev f x n < 256 := S_lt (fun i _ => mul_lt _ (hf i))
theorem ev_more {f : Nat → Nat} {x n m : Nat} (h : n ≤ m) (h0 : ∀ i, n ≤ i → f i = 0) : ev f x m = ev f x n := S_more h (fun i hi _ => by rw [h0 i hi, zero_mul])
theorem ev_xor {f g : Nat → Nat} (hf : ∀ i, f i < 256) (hg : ∀ i, g i < 256) (x n : Nat) : ev (fun i => f i ^^^ g i) x n = ev f x n ^^^ ev g x n := by
  unfold ev
  rw [← S_xor]
  exact S_congr (fun i _ => xor_mul _ (hf i) (hg i))
/-- the value of a product is the product of the values -/
theorem ev_cv {f g : Nat → Nat} (hf : ∀ i, f i < 256) (hg : ∀ i, g i < 256) {x : Nat} (hx : x < 256) (N M : Nat) (hN : ∀ i, N ≤ i → f i = 0) (hM : ∀ k, M ≤ k → g k = 0) : ev (cv f g) x (N + M) = mul (ev f x N) (ev g x M) := by
  unfold ev
  have e : ∀ m, mul (cv f g m) (pw x m) = S (fun i => S (fun k => if i + k = m then mul (mul (f i) (g k)) (pw x m) else 0) M) N := by
    intro m
    rw [cv_pr f g N M m hN hM]
    unfold pr
    rw [S_mul' (pw_lt x m) (fun i _ => S_lt (fun k _ => by split <;> first | exact mul_lt _ (hf i) | decide))]
    refine S_congr (fun i _ => ?_)
    rw [S_mul' (pw_lt x m) (fun k _ => by split <;> first | exact mul_lt _ (hf i) | decide)]
    refine S_congr (fun k _ => ?_)
    split
    · rfl
    · exact zero_mul _
  rw [S_congr (fun m _ => e m), S_swap, S_mul' (S_lt (fun k _ => mul_lt _ (hg k))) (fun i _ => mul_lt _ (hf i))]
  refine S_congr (fun i hi => ?_)
  rw [S_swap, S_mul (mul_lt _ (hf i)) (fun k _ => mul_lt _ (hg k))]
  refine S_congr (fun k hk => ?_)
  rw [S_one (k := i + k) (by omega) (fun m _ hne => if_neg (fun e => hne e.symm)), if_pos rfl, pw_add hx]
  have a1 := hf i
  have a2 := hg k
  have a3 := pw_lt x i
  have a4 := pw_lt x k
  rw [← mul_assoc a1 a2 (mul_lt _ a3), ← mul_assoc a1 a3 (mul_lt _ a2), mul_assoc a2 a3 a4, mul_comm a2 a3, ← mul_assoc a3 a2 a4]
/-- Horner's form: from the last coefficient on -/
def hor (x : Nat) : List Nat → Nat
  | [] => 0
  | c :: t => mul (hor x t) x ^^^ c
theorem hor_lt {x : Nat} (p : List Nat) (h : Ok p) : hor x p < 256 := by
  induction p with
  | nil => show 0 < 256; decide
  | cons c t ih => exact xor_lt (mul_lt _ (ih (fun y hy => h y (List.mem_cons_of_mem _ hy)))) (h c List.mem_cons_self)
theorem S_shift (f : Nat → Nat) (n : Nat) : S f (n + 1) = f 0 ^^^ S (fun i => f (i + 1)) n := by
  induction n with
  | zero => show 0 ^^^ f 0 = f 0 ^^^ 0; simp
  | succ n ih =>
    show S f (n + 1) ^^^ f (n + 1) = f 0 ^^^ (S _ n ^^^ f (n + 1))
    rw [ih, Nat.xor_assoc]
theorem hor_ev {x : Nat} (hx : x < 256) (p : List Nat) (h : Ok p) : hor x p = ev (co p) x p.length := by
  induction p with
  | nil => rfl
  | cons c t ih =>
    have ht : Ok t := fun y hy => h y (List.mem_cons_of_mem _ hy)
    have hc : c < 256 := h c List.mem_cons_self
    show mul (hor x t) x ^^^ c = S _ (t.length + 1)
    rw [ih ht, S_shift]
    have e0 : mul (co (c :: t) 0) (pw x 0) = c := by show mul c 1 = c; exact mul_one hc
    rw [e0, Nat.xor_comm]
    congr 1
    unfold ev
    rw [S_mul' hx (fun i _ => mul_lt _ (co_lt ht i))]
    refine S_congr (fun i _ => ?_)
    show mul (mul (co t i) (pw x i)) x = mul (co t i) (mul (pw x i) x)
    rw [mul_assoc (co_lt ht i) (pw_lt x i) hx]
end Go.Proofs.Ytcnjcfmgkkghjaa.Pl
