import Derived.Test.YtcnjcfmgkkghjaaLawB
import Derived.Test.YtcnjcfmgkkghjaaPlRing
import Derived.Test.YtcnjcfmgkkghjaaInter2
namespace Go.Proofs.Ytcnjcfmgkkghjaa
open Go.RowKit
/-- the quotient by x + r, by Horner's scheme -/
def sd (r : Nat) : List Nat → List Nat
  | [] => []
  | [_] => []
  | _ :: d :: t => Pl.hor r (d :: t) :: sd r (d :: t)
theorem sd_len (r : Nat) : ∀ p : List Nat, (sd r p).length = p.length - 1
  | [] => rfl
  | [_] => rfl
  | _ :: d :: t => by show (sd r (d :: t)).length + 1 = _; rw [sd_len r (d :: t)]; simp
theorem sd_ok {r : Nat} : ∀ p : List Nat, Pl.Ok p → Pl.Ok (sd r p)
  | [], _ => fun x hx => by cases hx
  | [_], _ => fun x hx => by cases hx
  | _ :: d :: t, h => fun x hx => by
    have ht : Pl.Ok (d :: t) := fun y hy => h y (List.mem_cons_of_mem _ hy)
    rcases List.mem_cons.1 hx with rfl | hx
    · exact Pl.hor_lt _ ht
    · exact sd_ok (d :: t) ht x hx
theorem sd_hor {r y : Nat} (hr : r < 256) (hy : y < 256) : ∀ p : List Nat, Pl.Ok p → Pl.hor y p = Gf.mul (Pl.hor y (sd r p)) (y ^^^ r) ^^^ Pl.hor r p
  | [], _ => by show 0 = Gf.mul 0 _ ^^^ 0; rw [Gf.zero_mul]; rfl
  | [c], _ => by
    show Gf.mul 0 y ^^^ c = Gf.mul 0 _ ^^^ (Gf.mul 0 r ^^^ c)
    rw [Gf.zero_mul, Gf.zero_mul, Gf.zero_mul]; simp
  | c :: d :: t, h => by
    have ht : Pl.Ok (d :: t) := fun z hz => h z (List.mem_cons_of_mem _ hz)
    have ih := sd_hor hr hy (d :: t) ht
    have hq := Pl.hor_lt (x := y) _ (sd_ok (r := r) _ ht)
    have hv := Pl.hor_lt (x := r) _ ht
    have hyr := Gf.xor_lt hy hr
    show Gf.mul (Pl.hor y (d :: t)) y ^^^ c = Gf.mul (Gf.mul (Pl.hor y (sd r (d :: t))) y ^^^ Pl.hor r (d :: t)) (y ^^^ r) ^^^ (Gf.mul (Pl.hor r (d :: t)) r ^^^ c)
    rw [ih]
    generalize Pl.hor y (sd r (d :: t)) = q at *
    generalize Pl.hor r (d :: t) = v at *
    rw [Gf.xor_mul _ (Gf.mul_lt _ hq) hv, Gf.xor_mul _ (Gf.mul_lt _ hq) hv, Gf.mul_xor hv hy hr, ← Gf.mul_assoc hq hyr hy, Gf.mul_comm hyr hy, Gf.mul_assoc hq hy hyr]
    generalize Gf.mul (Gf.mul q y) (y ^^^ r) = u
    generalize Gf.mul v y = s
    generalize Gf.mul v r = z
    rw [Nat.xor_assoc u, Nat.xor_assoc u, Nat.xor_assoc s z, ← Nat.xor_assoc z z, Nat.xor_self, Nat.zero_xor]
theorem sd_zero {r : Nat} : ∀ p : List Nat, Pl.hor r p = 0 → (∀ c ∈ sd r p, c = 0) → ∀ c ∈ p, c = 0
  | [], _, _ => fun c hc => by cases hc
  | [d], h, _ => fun c hc => by
    have e : Gf.mul 0 r ^^^ d = 0 := h
    rw [Gf.zero_mul, Nat.zero_xor] at e
    rcases List.mem_cons.1 hc with rfl | hc
    · exact e
    · cases hc
  | b :: d :: t, h, hz => fun c hc => by
    have h0 : Pl.hor r (d :: t) = 0 := hz _ (List.mem_cons_self ..)
    have e : Gf.mul (Pl.hor r (d :: t)) r ^^^ b = 0 := h
    rw [h0, Gf.zero_mul, Nat.zero_xor] at e
    rcases List.mem_cons.1 hc with rfl | hc
    · exact e
    · exact sd_zero (d :: t) h0 (fun x hx => hz x (List.mem_cons_of_mem _ hx)) c hc
theorem xor_ne {a b : Nat} (h : a ≠ b) : a ^^^ b ≠ 0 := fun e => h (by
  have : (a ^^^ b) ^^^ b = 0 ^^^ b := by rw [e]
  rwa [Nat.xor_assoc, Nat.xor_self, Nat.xor_zero, Nat.zero_xor] at this)
/-- a polynomial with as many different roots as coefficients is zero -/
theorem zeros (X : Nat → Nat) : ∀ (n : Nat) (p : List Nat), p.length = n → Pl.Ok p → (∀ i, i < n → X i < 256) → (∀ i j, i < j → j < n → X i ≠ X j) → (∀ i, i < n → Pl.hor (X i) p = 0) → ∀ c ∈ p, c = 0
  | 0, p, hl, _, _, _, _ => by
    obtain rfl := List.eq_nil_of_length_eq_zero hl
    intro c hc; cases hc
  | n + 1, p, hl, hp, hX, hd, hz => by
    refine sd_zero (r := X n) p (hz n (by omega)) ?_
    refine zeros X n (sd (X n) p) (by rw [sd_len, hl]; rfl) (sd_ok p hp) (fun i hi => hX i (by omega)) (fun i j h1 h2 => hd i j h1 (by omega)) (fun i hi => ?_)
    have h := sd_hor (hX n (by omega)) (hX i (by omega)) p hp
    rw [hz i (by omega), hz n (by omega), Nat.xor_zero] at h
    by_cases h0 : Pl.hor (X i) (sd (X n) p) = 0
    · exact h0
    · exact absurd h.symm (Pl.mul_ne (Pl.hor_lt _ (sd_ok p hp)) (Gf.xor_lt (hX i (by omega)) (hX n (by omega))) h0 (xor_ne (hd i n hi (by omega))))
/-- polynomials with the same values at more different elements than their degrees are equal -/
theorem same_values {A B : List Nat} {n : Nat} (X : Nat → Nat) (hA : ∀ i, A.getD i 0 < 256) (hB : ∀ i, B.getD i 0 < 256) (lA : Pl.d1 A ≤ n) (lB : Pl.d1 B ≤ n) (hX : ∀ i, i < n → X i < 256) (hd : ∀ i j, i < j → j < n → X i ≠ X j)
    (h : ∀ i, i < n → Pl.hor (X i) A = Pl.hor (X i) B) : Pl.trim A = Pl.trim B := by
  have zA : ∀ i, n ≤ i → Pl.co A i = 0 := fun i hi => Pl.d1_zero A i (by omega)
  have zB : ∀ i, n ≤ i → Pl.co B i = 0 := fun i hi => Pl.d1_zero B i (by omega)
  have hp : Pl.Ok (Pl.fn (fun i => Pl.co A i ^^^ Pl.co B i) n) := Pl.fn_ok (fun i _ => Gf.xor_lt (hA i) (hB i))
  have hval : ∀ i, i < n → Pl.hor (X i) (Pl.fn (fun i => Pl.co A i ^^^ Pl.co B i) n) = 0 := by
    intro i hi
    have e1 : ∀ (C : List Nat), (∀ i, C.getD i 0 < 256) → (∀ i, n ≤ i → Pl.co C i = 0) → Pl.hor (X i) C = Pl.ev (Pl.co C) (X i) n := by
      intro C hC zC
      rw [Pl.hor_ev (hX i hi) C (ok_of hC)]
      rcases Nat.le_total n C.length with h1 | h1
      · exact Pl.ev_more h1 zC
      · exact (Pl.ev_more h1 (fun j hj => Pl.co_out hj)).symm
    rw [Pl.hor_ev (hX i hi) _ hp, Pl.fn_len, show Pl.ev (Pl.co (Pl.fn (fun i => Pl.co A i ^^^ Pl.co B i) n)) (X i) n = Pl.ev (fun i => Pl.co A i ^^^ Pl.co B i) (X i) n from Pl.S_congr (fun j hj => by rw [Pl.fn_co, if_pos hj]),
      Pl.ev_xor hA hB, ← e1 A hA zA, ← e1 B hB zB, h i hi, Nat.xor_self]
  have hz := zeros X n _ (Pl.fn_len _ _) hp hX hd hval
  refine Pl.trim_congr (fun i => ?_)
  rcases Nat.lt_or_ge i n with h1 | h1
  · have h2 : Pl.co (Pl.fn (fun i => Pl.co A i ^^^ Pl.co B i) n) i = 0 := by
      have hl : i < (Pl.fn (fun i => Pl.co A i ^^^ Pl.co B i) n).length := by rw [Pl.fn_len]; exact h1
      show List.getD _ _ _ = 0
      rw [List.getD_eq_getElem?_getD, List.getElem?_eq_getElem hl]
      exact hz _ (List.getElem_mem hl)
    rw [Pl.fn_co, if_pos h1] at h2
    exact Classical.byContradiction fun hne => xor_ne hne h2
  · rw [zA i h1, zB i h1]
theorem hor_scal {x c : Nat} (hx : x < 256) (hc : c < 256) {B : List Nat} (hB : ∀ i, B.getD i 0 < 256) : Pl.hor x (scal B c) = Gf.mul (Pl.hor x B) c := by
  have hl : (scal B c).length = B.length := Pl.fn_len _ _
  rw [hor_n hx (scal_lt hB) (Nat.le_of_eq hl), Pl.hor_ev hx B (ok_of hB)]
  unfold Pl.ev
  rw [Pl.S_mul' hc (fun i _ => Gf.mul_lt _ (hB i))]
  refine Pl.S_congr (fun i hi => ?_)
  have e : Pl.co (scal B c) i = Gf.mul (Pl.co B i) c := by unfold scal; rw [Pl.fn_co, if_pos hi]
  have hp := Gf.pw_lt x i
  rw [e, ← Gf.mul_assoc (hB i) hc hp, Gf.mul_comm hc hp, Gf.mul_assoc (hB i) hp hc]
theorem hor_root {x r : Nat} (hx : x < 256) (hr : r < 256) {B : List Nat} (hB : ∀ i, B.getD i 0 < 256) : Pl.hor x (root r B) = Gf.mul (Pl.hor x B) (x ^^^ r) := by
  have hs : ∀ i, (if i = 0 then 0 else Pl.co B (i - 1)) < 256 := fun i => by split <;> first | exact hB _ | decide
  rw [hor_n hx (root_lt hB) (Nat.le_of_eq (root_len r B)), show Pl.ev (Pl.co (root r B)) x (B.length + 1) = Pl.ev (fun i => (if i = 0 then 0 else Pl.co B (i - 1)) ^^^ Gf.mul (Pl.co B i) r) x (B.length + 1) from Pl.S_congr (fun i hi => by unfold root; rw [Pl.fn_co, if_pos hi]),
    Pl.ev_xor hs (fun i => Gf.mul_lt _ (hB i)), Gf.mul_xor (Pl.hor_lt _ (ok_of hB)) hx hr]
  have hv : Pl.hor x B = Pl.ev (Pl.co B) x B.length := Pl.hor_ev hx B (ok_of hB)
  congr 1
  · unfold Pl.ev
    rw [Pl.S_shift, hv]
    show Gf.mul 0 _ ^^^ _ = _
    rw [Gf.zero_mul, Nat.zero_xor]
    unfold Pl.ev
    rw [Pl.S_mul' hx (fun i _ => Gf.mul_lt _ (hB i))]
    refine Pl.S_congr (fun i _ => ?_)
    show Gf.mul (if i + 1 = 0 then 0 else Pl.co B (i + 1 - 1)) (Gf.mul (Gf.pw x i) x) = _
    rw [if_neg (by omega), Nat.add_sub_cancel, Gf.mul_assoc (hB i) (Gf.pw_lt _ _) hx]
  · rw [Pl.ev_more (n := B.length) (by omega) (fun i hi => by show Gf.mul (Pl.co B i) r = 0; rw [Pl.co_out hi, Gf.zero_mul]), hv]
    unfold Pl.ev
    rw [Pl.S_mul' hr (fun i _ => Gf.mul_lt _ (hB i))]
    refine Pl.S_congr (fun i _ => ?_)
    have hp := Gf.pw_lt x i
    show Gf.mul (Gf.mul (Pl.co B i) r) (Gf.pw x i) = _
    rw [← Gf.mul_assoc (hB i) hr hp, Gf.mul_comm hr hp, Gf.mul_assoc (hB i) hp hr]
end Go.Proofs.Ytcnjcfmgkkghjaa
