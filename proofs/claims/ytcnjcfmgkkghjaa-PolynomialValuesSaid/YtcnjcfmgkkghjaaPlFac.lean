import Derived.Test.YtcnjcfmgkkghjaaPlDer
namespace Go.Proofs.Ytcnjcfmgkkghjaa
open Go.RowKit
theorem co_eq_of_values {A B : List Nat} (hA : ∀ i, A.getD i 0 < 256) (hB : ∀ i, B.getD i 0 < 256) (lA : A.length ≤ 100) (lB : B.length ≤ 100) (h : ∀ y, y < 256 → Pl.hor y A = Pl.hor y B) (i : Nat) : Pl.co A i = Pl.co B i := by
  have e := same_values (n := 200) (fun i => i) hA hB (d1_le2 _ (by omega)) (d1_le2 _ (by omega)) (fun i hi => by show i < 256; omega) (fun i j hij hj => by show i ≠ j; omega) (fun i hi => h i (by omega))
  have h1 := congrArg (fun l => Pl.co l i) e
  simp only [Pl.trim_co] at h1
  exact h1
theorem root_co (r : Nat) (xs : List Nat) (i : Nat) : Pl.co (root r xs) i = (if i = 0 then 0 else Pl.co xs (i - 1)) ^^^ Gf.mul (Pl.co xs i) r := by
  unfold root
  rw [Pl.fn_co]
  by_cases h : i < xs.length + 1
  · rw [if_pos h]
  · rw [if_neg h, if_neg (by omega), Pl.co_out (p := xs) (by omega), Pl.co_out (p := xs) (by omega), Gf.zero_mul]; rfl
theorem MultIs.uniq {xs : List Nat} {r m m' : Nat} {T T' : List Nat} (h : MultIs xs r m T) (k : MultIs xs r m' T') : m = m' := by
  have e := co_eq_of_values h.lt k.lt (Nat.le_trans h.len (by decide)) (Nat.le_trans k.len (by decide)) (fun y hy => by rw [h.hor y hy, k.hor y hy])
  rcases Nat.lt_trichotomy m m' with h1 | h1 | h1
  · exact absurd ((e m).trans (k.low m h1)) h.top
  · exact h1
  · exact absurd ((e m').symm.trans (h.low m' h1)) k.top
/-- taking out the root r -/
theorem mult_out1 {xs : List Nat} {r s m m' : Nat} {T T' : List Nat} (hr : r < 256) (hs : s < 256) (hx : ∀ i, xs.getD i 0 < 256) (h0 : Pl.hor r xs = 0) (h : MultIs xs s m T) (k : MultIs (sd r xs) s m' T') : m = if s = r then m' + 1 else m' := by
  have hc := Gf.xor_lt hs hr
  have e : ∀ i, Pl.co T i = Pl.co (root (s ^^^ r) T') i := co_eq_of_values h.lt (root_lt k.lt) (Nat.le_trans h.len (by decide)) (by rw [root_len]; have := k.len; omega) (fun y hy => by
    have hz := Gf.xor_lt hy hs
    rw [h.hor y hy, hor_root hy hc k.lt, k.hor y hy, sd_hor hr hz xs (ok_of hx), h0, Nat.xor_zero, Nat.xor_assoc])
  by_cases hsr : s = r
  · rw [if_pos hsr]
    subst hsr
    have e2 : ∀ i, Pl.co T i = if i = 0 then 0 else Pl.co T' (i - 1) := fun i => by rw [e, root_co, Nat.xor_self, Gf.mul_zero, Nat.xor_zero]
    rcases Nat.lt_trichotomy m (m' + 1) with h1 | h1 | h1
    · refine absurd ?_ h.top
      rw [e2]
      by_cases hm : m = 0
      · rw [if_pos hm]
      · rw [if_neg hm]; exact k.low _ (by omega)
    · exact h1
    · have h2 := h.low _ h1
      rw [e2, if_neg (by omega), Nat.add_sub_cancel] at h2
      exact absurd h2 k.top
  · rw [if_neg hsr]
    have hne := xor_ne hsr
    have e2 : ∀ i, i < m' → Pl.co T i = 0 := fun i hi => by
      rw [e, root_co, k.low i hi, Gf.zero_mul, Nat.xor_zero]
      by_cases h1 : i = 0
      · rw [if_pos h1]
      · rw [if_neg h1]; exact k.low _ (by omega)
    have e3 : Pl.co T m' ≠ 0 := by
      rw [e, root_co]
      have hz : (if m' = 0 then 0 else Pl.co T' (m' - 1)) = 0 := by
        by_cases h1 : m' = 0
        · rw [if_pos h1]
        · rw [if_neg h1]; exact k.low _ (by omega)
      rw [hz, Nat.zero_xor]
      exact Pl.mul_ne (k.lt m') hc k.top hne
    rcases Nat.lt_trichotomy m m' with h1 | h1 | h1
    · exact absurd (e2 m h1) h.top
    · exact h1
    · exact absurd (h.low m' h1) e3
/-- the quotient by x + r has a smaller degree, and is not zero -/
theorem sd_d1 {xs : List Nat} {r : Nat} (hr : r < 256) (hx : ∀ i, xs.getD i 0 < 256) (hl : xs.length ≤ 64) (h0 : Pl.hor r xs = 0) (hp : 0 < Pl.d1 xs) : 0 < Pl.d1 (sd r xs) ∧ Pl.d1 (sd r xs) < Pl.d1 xs := by
  have hQ : ∀ i, (sd r xs).getD i 0 < 256 := fun i => Pl.co_lt (sd_ok xs (ok_of hx)) i
  have hQl : (sd r xs).length ≤ 64 := by rw [sd_len]; omega
  have e : ∀ i, Pl.co xs i = Pl.co (root r (sd r xs)) i := co_eq_of_values hx (root_lt hQ) (by omega) (by rw [root_len]; omega) (fun y hy => by rw [hor_root hy hr hQ, sd_hor hr hy xs (ok_of hx), h0, Nat.xor_zero])
  have h1 : 0 < Pl.d1 (sd r xs) := by
    refine Nat.pos_of_ne_zero (fun hz => Pl.d1_top xs hp ?_)
    have z1 := Pl.d1_zero (sd r xs) (Pl.d1 xs - 1) (by omega)
    rw [e, root_co, z1, Gf.zero_mul, Nat.xor_zero]
    split
    · rfl
    · exact Pl.d1_zero (sd r xs) _ (by omega)
  refine ⟨h1, ?_⟩
  rcases Nat.lt_or_ge (Pl.d1 (sd r xs)) (Pl.d1 xs) with h2 | h2
  · exact h2
  · have h3 := Pl.d1_zero xs (Pl.d1 (sd r xs)) h2
    rw [e, root_co, if_neg (by omega), Pl.d1_zero (sd r xs) _ (Nat.le_refl _), Gf.zero_mul, Nat.xor_zero] at h3
    exact absurd h3 (Pl.d1_top _ h1)
theorem mult_ex {xs : List Nat} {r : Nat} (hr : r < 256) (hx : ∀ i, xs.getD i 0 < 256) (hl : xs.length ≤ 64) (h0 : 0 < Pl.d1 xs) : ∃ m T, MultIs xs r m T := by
  obtain ⟨m, _, h⟩ := mult_is (j := 6) hr hx hl h0 (Nat.le_trans (trim_le hl) (by decide))
  exact ⟨m, _, h⟩
/-- the multiplicity -/
noncomputable def mlt (xs : List Nat) (r : Nat) : Nat := open Classical in if h : ∃ m, ∃ T, MultIs xs r m T then h.choose else 0
theorem mlt_is {xs : List Nat} {r m : Nat} {T : List Nat} (h : MultIs xs r m T) : mlt xs r = m := by
  have hex : ∃ m, ∃ T, MultIs xs r m T := ⟨m, T, h⟩
  unfold mlt
  rw [dif_pos hex]
  obtain ⟨T', h'⟩ := hex.choose_spec
  exact h'.uniq h
theorem sum_out (f g : Nat → Nat) (r : Nat) : ∀ l : List Nat, l.Nodup → (∀ s ∈ l, f s = if s = r then g s + 1 else g s) → (l.map f).sum ≤ (l.map g).sum + 1 ∧ (r ∉ l → (l.map f).sum = (l.map g).sum)
  | [], _, _ => ⟨by simp, fun _ => rfl⟩
  | s :: t, hn, h => by
    have hn2 := List.nodup_cons.1 hn
    obtain ⟨i1, i2⟩ := sum_out f g r t hn2.2 (fun a ha => h a (List.mem_cons_of_mem _ ha))
    have hs := h s (List.mem_cons_self ..)
    simp only [List.map_cons, List.sum_cons]
    by_cases he : s = r
    · subst he
      rw [if_pos rfl] at hs
      have h3 := i2 hn2.1
      exact ⟨by omega, fun hm => absurd (List.mem_cons_self ..) hm⟩
    · rw [if_neg he] at hs
      refine ⟨by omega, fun hm => ?_⟩
      have h3 := i2 (fun hq => hm (List.mem_cons_of_mem _ hq))
      omega
theorem sum_zero : ∀ l : List Nat, (l.map (fun _ => 0)).sum = 0
  | [] => rfl
  | _ :: t => by simp only [List.map_cons, List.sum_cons]; rw [sum_zero t]
/-- at most as many roots as the degree, with their multiplicities -/
theorem mult_sum : ∀ (d : Nat) (xs : List Nat) (Rs : List Nat), 0 < Pl.d1 xs → Pl.d1 xs ≤ d + 1 → (∀ i, xs.getD i 0 < 256) → xs.length ≤ 64 → Rs.Nodup → (∀ r ∈ Rs, r < 256) → (Rs.map (mlt xs)).sum ≤ d := by
  intro d
  induction d with
  | zero =>
    intro xs Rs hp hd hx hl hn hR
    have hz : ∀ r ∈ Rs, mlt xs r = 0 := fun r hr => by
      obtain ⟨m, T, h⟩ := mult_ex (hR r hr) hx hl (by omega)
      rw [mlt_is h]
      rcases Nat.eq_zero_or_pos m with h1 | h1
      · exact h1
      · have := sd_d1 (hR r hr) hx hl (h.root.2 h1) (by omega)
        omega
    have : Rs.map (mlt xs) = Rs.map (fun _ => 0) := List.map_congr_left hz
    rw [this, sum_zero]
    exact Nat.zero_le _
  | succ d ih =>
    intro xs Rs hp hd hx hl hn hR
    by_cases hex : ∃ r ∈ Rs, mlt xs r ≠ 0
    · obtain ⟨r, hr, hm⟩ := hex
      have hrb := hR r hr
      obtain ⟨m, T, h⟩ := mult_ex hrb hx hl (by omega)
      rw [mlt_is h] at hm
      have h0 := h.root.2 (Nat.pos_of_ne_zero hm)
      have hq := sd_d1 hrb hx hl h0 (by omega)
      have hQ : ∀ i, (sd r xs).getD i 0 < 256 := fun i => Pl.co_lt (sd_ok xs (ok_of hx)) i
      have hQl : (sd r xs).length ≤ 64 := by rw [sd_len]; omega
      have hs := sum_out (mlt xs) (mlt (sd r xs)) r Rs hn (fun s hsR => by
        obtain ⟨m1, T1, k1⟩ := mult_ex (hR s hsR) hx hl (by omega)
        obtain ⟨m2, T2, k2⟩ := mult_ex (hR s hsR) hQ hQl hq.1
        rw [mlt_is k1, mlt_is k2]
        exact mult_out1 hrb (hR s hsR) hx h0 k1 k2)
      have hle : (Rs.map (mlt (sd r xs))).sum ≤ d := ih (sd r xs) Rs hq.1 (by omega) hQ hQl hn hR
      omega
    · have hz : ∀ r ∈ Rs, mlt xs r = 0 := fun r hr => Classical.byContradiction (fun h => hex ⟨r, hr, h⟩)
      have : Rs.map (mlt xs) = Rs.map (fun _ => 0) := List.map_congr_left hz
      rw [this, sum_zero]
      exact Nat.zero_le _
end Go.Proofs.Ytcnjcfmgkkghjaa
