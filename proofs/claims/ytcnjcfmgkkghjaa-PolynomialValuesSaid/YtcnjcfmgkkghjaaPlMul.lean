import Derived.Test.YtcnjcfmgkkghjaaPlEv
namespace Go.Proofs.Ytcnjcfmgkkghjaa.Pl
open Gf
/-- the product after k rounds: of the first k coefficients -/
def mr (f g : Nat → Nat) (k j : Nat) : Nat := S (fun i => if i ≤ j then mul (f i) (g (j - i)) else 0) k
theorem mr_lt {f g : Nat → Nat} (hf : ∀ i, f i < 256) (k j : Nat) : mr f g k j < 256 := S_lt (fun i _ => by split <;> first | exact mul_lt _ (hf i) | decide)
theorem mr_succ (f g : Nat → Nat) (k j : Nat) : mr f g (k + 1) j = mr f g k j ^^^ (if k ≤ j then mul (f k) (g (j - k)) else 0) := rfl
theorem mr_all {f g : Nat → Nat} (N n : Nat) (hN : ∀ i, N ≤ i → f i = 0) : mr f g N n = cv f g n := by
  have e2 : cv f g n = S (fun i => if i ≤ n then mul (f i) (g (n - i)) else 0) (n + 1) := S_congr (fun i hi => by rw [if_pos (by omega)])
  rw [e2]
  unfold mr
  rcases Nat.le_total N (n + 1) with h | h
  · exact (S_more h (fun i hi _ => by rw [hN i hi]; split <;> simp [zero_mul])).symm
  · exact S_more h (fun i hi _ => if_neg (by omega))
/-- the term of degree i with the coefficient c -/
def dl (i c j : Nat) : Nat := if j = i then c else 0
theorem dl_lt {i c : Nat} (hc : c < 256) (j : Nat) : dl i c j < 256 := by unfold dl; split <;> first | exact hc | decide
theorem cv_dl (f : Nat → Nat) (i c n : Nat) : cv f (dl i c) n = if i ≤ n then mul (f (n - i)) c else 0 := by
  unfold cv
  by_cases h : i ≤ n
  · rw [if_pos h, S_one (k := n - i) (by omega) (fun j hj hne => ?_)]
    · unfold dl; rw [if_pos (by omega)]
    · unfold dl; rw [if_neg (by omega), mul_zero]
  · rw [if_neg h]
    exact S_zero (fun j hj => by unfold dl; rw [if_neg (by omega), mul_zero])
/-- what a division keeps: a remainder R and a quotient Q, filled from i on -/
def Div (p q : Nat → Nat) (deg i : Nat) (Q R : Nat → Nat) : Prop :=
  (∀ j, Q j < 256) ∧ (∀ j, R j < 256) ∧ (∀ j, j < i → Q j = 0) ∧ (∀ j, i + deg ≤ j → R j = 0) ∧ ∀ j, p j = R j ^^^ cv q Q j
theorem Div.start {p q : Nat → Nat} {deg i : Nat} (hp : ∀ j, p j < 256) (h0 : ∀ j, i + deg ≤ j → p j = 0) : Div p q deg i (fun _ => 0) p :=
  ⟨fun _ => (by decide : 0 < 256), hp, fun _ _ => rfl, h0, fun j => by
    have e : cv q (fun _ => 0) j = 0 := S_zero (fun i _ => mul_zero _)
    rw [e]; simp⟩
theorem xor_self_mid (a b c : Nat) : (a ^^^ b) ^^^ (c ^^^ b) = a ^^^ c := by
  rw [Nat.xor_assoc, Nat.xor_comm c b, ← Nat.xor_assoc b b c, Nat.xor_self, Nat.zero_xor]
theorem Div.step {p q Q R : Nat → Nat} {deg i : Nat} (hq : ∀ j, q j < 256) (hqt : q deg ≠ 0) (hq0 : ∀ j, deg < j → q j = 0) (h : Div p q deg (i + 1) Q R) :
    Div p q deg i (fun j => Q j ^^^ dl i (mul (R (i + deg)) (inv (q deg))) j) (fun j => R j ^^^ if i ≤ j then mul (q (j - i)) (mul (R (i + deg)) (inv (q deg))) else 0) := by
  obtain ⟨h1, h2, h3, h4, h5⟩ := h
  have hi : inv (q deg) < 256 := pw_lt _ 254
  have hc : mul (R (i + deg)) (inv (q deg)) < 256 := mul_lt _ (h2 _)
  refine ⟨fun j => xor_lt (h1 j) (dl_lt hc j), fun j => xor_lt (h2 j) (by split <;> first | exact mul_lt _ (hq _) | decide), ?_, ?_, ?_⟩
  · intro j hj
    show Q j ^^^ dl _ _ j = 0
    rw [h3 j (by omega)]
    unfold dl; rw [if_neg (by omega)]; rfl
  · intro j hj
    show (R j ^^^ _) = 0
    rw [if_pos (by omega)]
    by_cases e : j = i + deg
    · subst e
      rw [show i + deg - i = deg by omega, mul_comm (hq deg) hc, ← mul_assoc (h2 _) hi (hq deg), mul_comm hi (hq deg), mul_inv (hq deg) hqt, mul_one (h2 _), Nat.xor_self]
    · rw [h4 j (by omega), hq0 _ (by omega), zero_mul]; rfl
  · intro j
    rw [cv_xor hq h1 (dl_lt hc), cv_dl, h5 j]
    show _ = (R j ^^^ _) ^^^ (cv q Q j ^^^ _)
    rw [xor_self_mid]
end Go.Proofs.Ytcnjcfmgkkghjaa.Pl
