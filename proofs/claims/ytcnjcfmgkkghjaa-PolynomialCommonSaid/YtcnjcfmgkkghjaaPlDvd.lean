import Derived.Test.YtcnjcfmgkkghjaaPlRefDiv
namespace Go.Proofs.Ytcnjcfmgkkghjaa
open Go.RowKit
theorem scal_co2 (G : List Nat) (i j : Nat) : Pl.co (scal G i) j = Gf.mul (Pl.co G j) i := by
  unfold scal
  exact co_fn (fun j hj => by rw [Pl.co_out hj, Gf.zero_mul]) j
theorem co_nil (j : Nat) : Pl.co [] j = 0 := by simp [Pl.co]
theorem cvl_assoc {A B C : List Nat} (hA : ∀ i, A.getD i 0 < 256) (hB : ∀ i, B.getD i 0 < 256) (hC : ∀ i, C.getD i 0 < 256) (n : Nat) : Pl.cv (Pl.co A) (Pl.cv (Pl.co B) (Pl.co C)) n = Pl.cv (Pl.cv (Pl.co A) (Pl.co B)) (Pl.co C) n :=
  Pl.cv_assoc hA hB hC A.length B.length C.length (fun _ hi => Pl.co_out hi) (fun _ hi => Pl.co_out hi) (fun _ hi => Pl.co_out hi) n
theorem cvl_comm {A B : List Nat} (hA : ∀ i, A.getD i 0 < 256) (hB : ∀ i, B.getD i 0 < 256) (n : Nat) : Pl.cv (Pl.co A) (Pl.co B) n = Pl.cv (Pl.co B) (Pl.co A) n :=
  Pl.cv_comm hA hB A.length B.length (fun _ hi => Pl.co_out hi) (fun _ hi => Pl.co_out hi) n
/-- G is a factor of A -/
def dv (G A : List Nat) : Prop := ∃ C : List Nat, (∀ i, C.getD i 0 < 256) ∧ ∀ j, Pl.co A j = Pl.cv (Pl.co G) (Pl.co C) j
theorem dv_self {G : List Nat} (hG : ∀ i, G.getD i 0 < 256) : dv G G := by
  refine ⟨[1], lt_all (by decide), fun j => ?_⟩
  rw [cv_congr (f' := Pl.co G) (g' := Pl.dl 0 1) (fun _ => rfl) (fun i => ?_), Pl.cv_dl, if_pos (Nat.zero_le _), Nat.sub_zero, Gf.mul_one (hG j)]
  match i with
  | 0 => rfl
  | i + 1 => show ([1] : List Nat).getD (i + 1) 0 = if i + 1 = 0 then 1 else 0; simp
theorem dv_nil (G : List Nat) : dv G [] := ⟨[], fun i => by simp, fun j => by rw [co_nil]; exact (Pl.S_zero (fun i _ => by rw [co_nil, Gf.mul_zero])).symm⟩
theorem dv_add {H A B D P : List Nat} (hH : ∀ i, H.getD i 0 < 256) (hD : ∀ i, D.getD i 0 < 256) (h : dv H A) (k : dv H B) (e : ∀ j, Pl.co P j = Pl.co A j ^^^ Pl.cv (Pl.co B) (Pl.co D) j) : dv H P := by
  obtain ⟨CA, a1, a2⟩ := h
  obtain ⟨CB, b1, b2⟩ := k
  refine ⟨plus CA (timesT CB D), plus_lt a1 (timesT_lt b1), fun j => ?_⟩
  rw [cv_congr (f' := Pl.co H) (g' := fun i => Pl.co CA i ^^^ Pl.cv (Pl.co CB) (Pl.co D) i) (fun _ => rfl) (fun i => by rw [plus_co, timesT_co]), Pl.cv_xor hH a1 (fun i => Pl.cv_lt b1 i), cvl_assoc hH b1 hD, ← a2, e]
  congr 1
  exact cv_congr b2 (fun _ => rfl) j
theorem xor_flip {a b c : Nat} (h : a = b ^^^ c) : b = a ^^^ c := by rw [h, Nat.xor_assoc, Nat.xor_self, Nat.xor_zero]
theorem Euc.dvd {P Q G : List Nat} (h : Euc P Q G) : (∀ i, G.getD i 0 < 256) → dv G P ∧ dv G Q := by
  induction h with
  | stop P => exact fun hG => ⟨dv_self hG, dv_nil P⟩
  | step _ h2 _ ih =>
    intro hG
    obtain ⟨k1, k2⟩ := ih hG
    exact ⟨dv_add hG h2.1 k2 k1 h2.2.2.2.2.2.2, k1⟩
theorem Euc.great {P Q G H : List Nat} (h : Euc P Q G) (hH : ∀ i, H.getD i 0 < 256) : dv H P → dv H Q → dv H G := by
  induction h with
  | stop P => exact fun h _ => h
  | step _ h2 _ ih => exact fun hp hq => ih hq (dv_add hH h2.1 hp hq (fun j => xor_flip (h2.2.2.2.2.2.2 j)))
theorem d1_cv {A C B : List Nat} (hA : ∀ i, A.getD i 0 < 256) (hC : ∀ i, C.getD i 0 < 256) (h : ∀ j, Pl.co B j = Pl.cv (Pl.co A) (Pl.co C) j) (h1 : 0 < Pl.d1 A) (h2 : 0 < Pl.d1 C) : Pl.d1 B = Pl.d1 A + Pl.d1 C - 1 := by
  refine Pl.d1_unique _ _ (fun j hj => ?_) (fun _ => ?_)
  · rw [h, Pl.cv_zero (fun i hi => Pl.d1_zero A i hi) (fun i hi => Pl.d1_zero C i hi) j (by omega)]
  · rw [h, show Pl.d1 A + Pl.d1 C - 1 - 1 = (Pl.d1 A - 1) + (Pl.d1 C - 1) by omega, Pl.cv_top (fun i hi => Pl.d1_zero A i (by omega)) (fun i hi => Pl.d1_zero C i (by omega))]
    exact Pl.mul_ne (hA _) (hC _) (Pl.d1_top A h1) (Pl.d1_top C h2)
theorem cv_left0 {A C : List Nat} (h : Pl.d1 A = 0) (j : Nat) : Pl.cv (Pl.co A) (Pl.co C) j = 0 := Pl.S_zero (fun i _ => by rw [Pl.d1_zero A i (by omega), Gf.zero_mul])
theorem cv_right0 {A C : List Nat} (h : Pl.d1 C = 0) (j : Nat) : Pl.cv (Pl.co A) (Pl.co C) j = 0 := Pl.S_zero (fun i _ => by rw [Pl.d1_zero C _ (by omega), Gf.mul_zero])
theorem d1_of_zero {B : List Nat} (h : ∀ j, Pl.co B j = 0) : Pl.d1 B = 0 := Pl.d1_unique _ 0 (fun i _ => h i) (fun h => absurd h (Nat.lt_irrefl _))
theorem inv_lt (a : Nat) : Gf.inv a < 256 := Gf.pw_lt a 254
theorem inv_part {a c : Nat} (ha : a < 256) (hc : c < 256) (h0 : a ≠ 0) (h1 : c ≠ 0) : Gf.mul c (Gf.inv (Gf.mul a c)) = Gf.inv a := by
  have hx := inv_lt (Gf.mul a c)
  have hy := inv_lt a
  have e1 : Gf.mul (Gf.mul a c) (Gf.inv (Gf.mul a c)) = 1 := Gf.mul_inv (Gf.mul_lt _ ha) (Pl.mul_ne ha hc h0 h1)
  have e2 : Gf.mul a (Gf.mul c (Gf.inv (Gf.mul a c))) = 1 := by rw [Gf.mul_assoc ha hc hx]; exact e1
  have e3 : Gf.mul (Gf.inv a) (Gf.mul a (Gf.mul c (Gf.inv (Gf.mul a c)))) = Gf.mul c (Gf.inv (Gf.mul a c)) := by
    rw [Gf.mul_assoc hy ha (Gf.mul_lt _ hc), Gf.mul_comm hy ha, Gf.mul_inv ha h0, Gf.one_mul (Gf.mul_lt _ hc)]
  rw [e2, Gf.mul_one hy] at e3
  exact e3.symm
/-- polynomials that are factors of each other are the same but for a factor -/
theorem dv_same {A B : List Nat} (hA : ∀ i, A.getD i 0 < 256) (hB : ∀ i, B.getD i 0 < 256) (nA : Pl.Nf A) (nB : Pl.Nf B) (h : dv A B) (k : dv B A) : monic A = monic B := by
  obtain ⟨C, c1, c2⟩ := h
  obtain ⟨C', e1, e2⟩ := k
  rcases Nat.eq_zero_or_pos (Pl.d1 A) with hz | hz
  · have hb : Pl.d1 B = 0 := d1_of_zero (fun j => by rw [c2, cv_left0 hz])
    have l1 : A = [] := List.eq_nil_of_length_eq_zero (by rw [← nA, hz])
    have l2 : B = [] := List.eq_nil_of_length_eq_zero (by rw [← nB, hb])
    rw [l1, l2]
  · have hC' : 0 < Pl.d1 C' := by
      rcases Nat.eq_zero_or_pos (Pl.d1 C') with h | h
      · have := d1_of_zero (B := A) (fun j => by rw [e2, cv_right0 h]); omega
      · exact h
    have hBp : 0 < Pl.d1 B := by
      rcases Nat.eq_zero_or_pos (Pl.d1 B) with h | h
      · have := d1_of_zero (B := A) (fun j => by rw [e2, cv_left0 h]); omega
      · exact h
    have hC : 0 < Pl.d1 C := by
      rcases Nat.eq_zero_or_pos (Pl.d1 C) with h | h
      · have := d1_of_zero (B := B) (fun j => by rw [c2, cv_right0 h]); omega
      · exact h
    have q1 := d1_cv hA c1 c2 hz hC
    have q2 := d1_cv hB e1 e2 hBp hC'
    have hC1 : Pl.d1 C = 1 := by omega
    have hAB : Pl.d1 A = Pl.d1 B := by omega
    have c0 : Pl.co C 0 ≠ 0 := by have := Pl.d1_top C hC; rw [hC1] at this; exact this
    have hco : ∀ j, Pl.co B j = Gf.mul (Pl.co A j) (Pl.co C 0) := fun j => by
      rw [c2, cv_congr (f' := Pl.co A) (g' := Pl.dl 0 (Pl.co C 0)) (fun _ => rfl) (fun i => ?_), Pl.cv_dl, if_pos (Nat.zero_le _), Nat.sub_zero]
      unfold Pl.dl
      split
      · rename_i h; rw [h]
      · exact Pl.d1_zero C i (by omega)
    have hl : A.length = B.length := by rw [← nA, ← nB, hAB]
    have ht : Pl.co A (A.length - 1) ≠ 0 := by have := Pl.d1_top A hz; rwa [nA] at this
    unfold monic
    refine Pl.co_ext (by unfold scal; rw [Pl.fn_len, Pl.fn_len, hl]) (fun j _ => ?_)
    rw [scal_co2, scal_co2, ← hl, hco, hco, ← Gf.mul_assoc (hA j) (c1 0) (inv_lt _), inv_part (hA _) (c1 0) ht c0]
/-- a division without a remainder -/
theorem div_exact {A B C D R : List Nat} (hB : ∀ i, B.getD i 0 < 256) (h0 : 0 < Pl.d1 B) (h : DivOk A B D R) (hC : ∀ i, C.getD i 0 < 256) (nC : Pl.Nf C) (e : ∀ j, Pl.co A j = Pl.cv (Pl.co B) (Pl.co C) j) : D = C ∧ R = [] :=
  divOk_unique hB h0 h (divOk_eq hB h0 hC (fun i => by simp) nC rfl h0 (fun j => by rw [co_nil, Nat.zero_xor, e]))
theorem monic_len (G : List Nat) : (monic G).length = G.length := Pl.fn_len _ _
theorem monic_co (G : List Nat) (j : Nat) : Pl.co (monic G) j = Gf.mul (Pl.co G j) (Gf.inv (Pl.co G (G.length - 1))) := scal_co2 _ _ _
theorem monic_lt2 {G : List Nat} (hG : ∀ i, G.getD i 0 < 256) (i : Nat) : (monic G).getD i 0 < 256 := scal_lt hG i
theorem top_ne {G : List Nat} (nG : Pl.Nf G) (h : 0 < G.length) : Pl.co G (G.length - 1) ≠ 0 := by have := Pl.d1_top G (by rw [nG]; exact h); rwa [nG] at this
theorem monic_top {G : List Nat} (hG : ∀ i, G.getD i 0 < 256) (nG : Pl.Nf G) (h : 0 < G.length) : Pl.co (monic G) ((monic G).length - 1) = 1 := by
  rw [monic_len, monic_co]; exact Gf.mul_inv (hG _) (top_ne nG h)
theorem monic_d1 {G : List Nat} (hG : ∀ i, G.getD i 0 < 256) (nG : Pl.Nf G) (h : 0 < G.length) : Pl.d1 (monic G) = G.length := by
  refine Pl.d1_unique _ _ (fun j hj => Pl.co_out (by rw [monic_len]; exact hj)) (fun _ => ?_)
  have := monic_top hG nG h
  rw [monic_len] at this
  rw [this]; decide
theorem mul4 {a b i e : Nat} (ha : a < 256) (hb : b < 256) (hi : i < 256) (he : e < 256) : Gf.mul (Gf.mul a i) (Gf.mul b e) = Gf.mul (Gf.mul a b) (Gf.mul i e) := by
  rw [Gf.mul_assoc (Gf.mul_lt _ ha) hb he, ← Gf.mul_assoc ha hi hb, Gf.mul_comm hi hb, Gf.mul_assoc ha hb hi, ← Gf.mul_assoc (Gf.mul_lt _ ha) hi he]
/-- what G divides, its monic multiple divides -/
theorem monic_dv {G A : List Nat} (hG : ∀ i, G.getD i 0 < 256) (nG : Pl.Nf G) (h : 0 < G.length) (k : dv G A) : ∃ C : List Nat, (∀ i, C.getD i 0 < 256) ∧ Pl.Nf C ∧ ∀ j, Pl.co A j = Pl.cv (Pl.co (monic G)) (Pl.co C) j := by
  obtain ⟨C, c1, c2⟩ := k
  have ht := top_ne nG h
  refine ⟨Pl.trim (scal C (Pl.co G (G.length - 1))), co_trim_lt (scal_lt c1), Pl.trim_nf _, fun j => ?_⟩
  rw [c2]
  refine Pl.S_congr (fun i _ => ?_)
  rw [monic_co, Pl.trim_co, scal_co2, mul4 (hG _) (c1 _) (inv_lt _) (hG _), Gf.mul_comm (inv_lt _) (hG _), Gf.mul_inv (hG _) ht, Gf.mul_one (Gf.mul_lt _ (hG _))]
theorem timesT_nil (R : List Nat) : timesT [] R = [] := by unfold timesT; rw [if_pos (.inl rfl)]
theorem timesT_d1 {A R : List Nat} (hA : ∀ i, A.getD i 0 < 256) (hR : ∀ i, R.getD i 0 < 256) (h1 : 0 < Pl.d1 A) (h2 : 0 < Pl.d1 R) : (timesT A R).length = Pl.d1 A + Pl.d1 R - 1 := by
  rw [← timesT_nf hA hR]; exact d1_cv hA hR (timesT_co A R) h1 h2
/-- Euclid's rounds with a common factor -/
theorem Euc.times {P Q G : List Nat} (h : Euc P Q G) {F : List Nat} (hF : ∀ i, F.getD i 0 < 256) (f0 : 0 < Pl.d1 F) : (∀ i, P.getD i 0 < 256) → (∀ i, Q.getD i 0 < 256) → Pl.Nf Q → Euc (timesT P F) (timesT Q F) (timesT G F) := by
  induction h with
  | stop P => intro _ _ _; rw [timesT_nil]; exact .stop _
  | @step P Q D R G h1 h2 _ ih =>
    intro hP hQ nQ
    obtain ⟨a1, a2, a3, a4, a5, a6, a7⟩ := h2
    have hq0 : 0 < Pl.d1 Q := by rw [nQ]; exact h1
    have lQ := timesT_d1 hQ hF hq0 f0
    have nQF := timesT_nf hQ hF
    have dQ : Pl.d1 (timesT Q F) = Pl.d1 Q + Pl.d1 F - 1 := by rw [nQF]; exact lQ
    refine .step (D := D) (R := timesT R F) (by omega) ?_ (ih hQ a2 a4)
    refine divOk_eq (timesT_lt hQ) (by omega) a1 (timesT_lt a2) a3 (timesT_nf a2 hF) ?_ (fun j => ?_)
    · rcases Nat.eq_zero_or_pos (Pl.d1 R) with hz | hz
      · have e : R = [] := List.eq_nil_of_length_eq_zero (by rw [← a4, hz])
        rw [e, timesT_nil]
        show 0 < _
        omega
      · rw [timesT_d1 a2 hF hz f0, dQ]
        rw [← a4] at a5
        omega
    · rw [timesT_co, timesT_co, cv_congr a7 (fun _ => rfl), Pl.xor_cv a2 (fun i => Pl.cv_lt hQ i)]
      congr 1
      rw [cv_congr (timesT_co Q F) (fun _ => rfl), ← cvl_assoc hQ a1 hF, ← cvl_assoc hQ hF a1]
      exact cv_congr (fun _ => rfl) (cvl_comm a1 hF) j
end Go.Proofs.Ytcnjcfmgkkghjaa
