import Derived.Test.YtfdbdhknamkipaaEncd
import Derived.Test.YtfdbdhknamkipaaNumI
namespace Go.Proofs.Ytfdbdhknamkipaa
open Go.RowKit
/-- equal, as far as their kind goes -/
def eqv (x y : RV) : Bool :=
  if x.kind = 1 then x.u == y.u else if x.kind = 2 ∨ x.kind = 7 then x.n == y.n else if x.kind = 3 then x.b == y.b else decide (x.s = y.s)
theorem ofStr_inj {s t : ByteArray} (h : ofStr s = ofStr t) : s = t := by rw [← str_ofStr s, h, str_ofStr]
theorem eqv_1 {x y : RV} (k : x.kind = 1) : eqv x y = (x.u == y.u) := by unfold eqv; rw [if_pos k]
theorem eqv_2 {x y : RV} (k : x.kind = 2 ∨ x.kind = 7) : eqv x y = (x.n == y.n) := by unfold eqv; rw [if_neg (by omega), if_pos k]
theorem eqv_3 {x y : RV} (k : x.kind = 3) : eqv x y = (x.b == y.b) := by unfold eqv; rw [if_neg (by omega), if_neg (by omega), if_pos k]
theorem eqv_4 {x y : RV} (k : x.kind = 4 ∨ x.kind = 5 ∨ x.kind = 6) : eqv x y = decide (x.s = y.s) := by unfold eqv; rw [if_neg (by omega), if_neg (by omega), if_neg (by omega)]
theorem putB_1 {x : RV} (k : x.kind = 1) : putB x = .inr (En.enc x.u) := by unfold putB; rw [if_pos k]
theorem putB_2 {x : RV} (k : x.kind = 2) : putB x = .inr (En.enc (zig x.n)) := by unfold putB; rw [if_neg (by omega), if_pos k]
theorem putB_3 {x : RV} (k : x.kind = 3) : putB x = .inr [if x.b then 1 else 0] := by unfold putB; rw [if_neg (by omega), if_neg (by omega), if_pos k]
theorem putB_4 {x : RV} (k : x.kind = 4 ∨ x.kind = 5) : putB x = .inr (En.enc x.s.size ++ ofStr x.s) := by unfold putB; rw [if_neg (by omega), if_neg (by omega), if_neg (by omega), if_pos k]
theorem putB_6 {x : RV} (k : x.kind = 6) : putB x = if x.s.size = 32 then .inr (ofStr x.s) else .inl 1 := by unfold putB; rw [if_neg (by omega), if_neg (by omega), if_neg (by omega), if_neg (by omega), if_pos k]
theorem putB_7 {x : RV} (k : x.kind = 7) : putB x = if x.n < 0 then .inl 1 else .inr (En.enc x.n.toNat) := by unfold putB; rw [if_neg (by omega), if_neg (by omega), if_neg (by omega), if_neg (by omega), if_neg (by omega), if_pos k]
/-- what values of one kind are written as parts at their ends -/
theorem putB_part {x y : RV} {ds es r s : List Nat} (hx : VK x) (hy : VK y) (k1 : 1 ≤ x.kind) (k7 : x.kind ≤ 7) (hk : x.kind = y.kind) (h1 : putB x = .inr ds) (h2 : putB y = .inr es) (h : ds ++ r = es ++ s) : eqv x y = true ∧ r = s := by
  by_cases c1 : x.kind = 1
  · rw [putB_1 c1] at h1
    rw [putB_1 (by omega)] at h2
    cases h1; cases h2
    obtain ⟨e1, e2⟩ := En.enc_part hx.u hy.u h
    exact ⟨by rw [eqv_1 c1]; simpa using e1, e2⟩
  by_cases c2 : x.kind = 2
  · rw [putB_2 c2] at h1
    rw [putB_2 (by omega)] at h2
    cases h1; cases h2
    obtain ⟨e1, e2⟩ := En.enc_part (zig_lt hx.n1 hx.n2) (zig_lt hy.n1 hy.n2) h
    have e3 : x.n = y.n := by rw [← unzig_zig x.n, e1, unzig_zig]
    exact ⟨by rw [eqv_2 (Or.inl c2)]; simpa using e3, e2⟩
  by_cases c3 : x.kind = 3
  · rw [putB_3 c3] at h1
    rw [putB_3 (by omega)] at h2
    cases h1; cases h2
    simp only [List.cons_append, List.nil_append, List.cons.injEq] at h
    refine ⟨?_, h.2⟩
    rw [eqv_3 c3]
    have := h.1
    revert this
    cases x.b <;> cases y.b <;> simp
  by_cases c4 : x.kind = 4 ∨ x.kind = 5
  · rw [putB_4 c4] at h1
    rw [putB_4 (by omega)] at h2
    cases h1; cases h2
    rw [List.append_assoc, List.append_assoc] at h
    obtain ⟨e1, e2⟩ := En.enc_part (by have := hx.s; omega) (by have := hy.s; omega) h
    have e3 := List.append_inj e2 (by rw [ofStr_len, ofStr_len, e1])
    exact ⟨by rw [eqv_4 (by omega)]; simpa using ofStr_inj e3.1, e3.2⟩
  by_cases c6 : x.kind = 6
  · rw [putB_6 c6] at h1
    rw [putB_6 (by omega)] at h2
    split at h1
    · rename_i s1
      split at h2
      · rename_i s2
        cases h1; cases h2
        have e3 := List.append_inj h (by rw [ofStr_len, ofStr_len, s1, s2])
        exact ⟨by rw [eqv_4 (by omega)]; simpa using ofStr_inj e3.1, e3.2⟩
      · cases h2
    · cases h1
  · have c7 : x.kind = 7 := by omega
    rw [putB_7 c7] at h1
    rw [putB_7 (by omega)] at h2
    split at h1
    · cases h1
    · rename_i n1
      split at h2
      · cases h2
      · rename_i n2
        cases h1; cases h2
        have b1 := hx.n2
        have b2 := hy.n2
        obtain ⟨e1, e2⟩ := En.enc_part (by omega) (by omega) h
        exact ⟨by rw [eqv_2 (Or.inr c7)]; simp; omega, e2⟩
theorem putB_eqv {x y : RV} (k1 : 1 ≤ x.kind) (k7 : x.kind ≤ 7) (hk : x.kind = y.kind) (h : eqv x y = true) : putB x = putB y := by
  by_cases c1 : x.kind = 1
  · rw [eqv_1 c1] at h; rw [putB_1 c1, putB_1 (by omega), show x.u = y.u by simpa using h]
  by_cases c2 : x.kind = 2
  · rw [eqv_2 (Or.inl c2)] at h; rw [putB_2 c2, putB_2 (by omega), show x.n = y.n by simpa using h]
  by_cases c3 : x.kind = 3
  · rw [eqv_3 c3] at h; rw [putB_3 c3, putB_3 (by omega), show x.b = y.b by simpa using h]
  by_cases c4 : x.kind = 4 ∨ x.kind = 5
  · rw [eqv_4 (by omega)] at h; rw [putB_4 c4, putB_4 (by omega), show x.s = y.s by simpa using h]
  by_cases c6 : x.kind = 6
  · rw [eqv_4 (by omega)] at h; rw [putB_6 c6, putB_6 (by omega), show x.s = y.s by simpa using h]
  · have c7 : x.kind = 7 := by omega
    rw [eqv_2 (Or.inr c7)] at h; rw [putB_7 c7, putB_7 (by omega), show x.n = y.n by simpa using h]
theorem putStep_ok {p : List Nat × Nat} {v : RV} (h : (putStep p v).2 = 0) : p.2 = 0 ∧ ∃ ds, putB v = .inr ds ∧ (putStep p v).1 = p.1 ++ ds := by
  unfold putStep at h ⊢
  by_cases he : p.2 ≠ 0
  · rw [if_pos he] at h; exact absurd h he
  · rw [if_neg he] at h ⊢
    refine ⟨by simpa using he, ?_⟩
    cases hb : putB v with
    | inl er =>
      rw [hb] at h
      exfalso
      have h' : er = 0 := h
      unfold putB at hb
      repeat' split at hb
      all_goals first | (cases hb; done) | (simp only [Sum.inl.injEq] at hb; omega) | cases hb
    | inr ds => exact ⟨ds, rfl, rfl⟩
theorem putAll_pre {V : Nat → RV} {n : Nat} (h : (putAll V n).2 = 0) : ∀ d k, k + d = n → (putAll V k).2 = 0 ∧ ∃ rest, (putAll V n).1 = (putAll V k).1 ++ rest
  | 0, k, hk => by
    obtain rfl : k = n := by omega
    exact ⟨h, [], by simp⟩
  | d + 1, k, hk => by
    obtain ⟨h1, rest, h2⟩ := putAll_pre h d (k + 1) (by omega)
    obtain ⟨h3, ds, h4, h5⟩ := putStep_ok (p := putAll V k) (v := V k) h1
    exact ⟨h3, ds ++ rest, by rw [h2]; show (putStep (putAll V k) (V k)).1 ++ rest = _; rw [h5, List.append_assoc]⟩
theorem putAll_step {V : Nat → RV} {n k : Nat} (h : (putAll V n).2 = 0) (hk : k < n) : ∃ ds rest, putB (V k) = .inr ds ∧ (putAll V (k + 1)).1 = (putAll V k).1 ++ ds ∧ (putAll V n).1 = (putAll V (k + 1)).1 ++ rest := by
  obtain ⟨h1, rest, h2⟩ := putAll_pre h (n - (k + 1)) (k + 1) (by omega)
  obtain ⟨h3, ds, h4, h5⟩ := putStep_ok (p := putAll V k) (v := V k) h1
  exact ⟨ds, rest, h4, h5, h2⟩
/-- the first k values of two lists are equal -/
def eqAll (X Y : Nat → RV) : Nat → Bool
  | 0 => true
  | k + 1 => eqAll X Y k && eqv (X k) (Y k)
theorem distinct {X Y : Nat → RV} {n : Nat} (hx : ∀ i, i < n → VK (X i)) (hy : ∀ i, i < n → VK (Y i)) (hk : ∀ i, i < n → (X i).kind = (Y i).kind ∧ 1 ≤ (X i).kind ∧ (X i).kind ≤ 7) (h1 : (putAll X n).2 = 0) (h2 : (putAll Y n).2 = 0) :
    decide ((putAll X n).1 = (putAll Y n).1) = eqAll X Y n := by
  have fwd : (putAll X n).1 = (putAll Y n).1 → ∀ k, k ≤ n → eqAll X Y k = true ∧ (putAll X k).1 = (putAll Y k).1 := by
    intro he k
    induction k with
    | zero => intro _; exact ⟨rfl, rfl⟩
    | succ k ih =>
      intro hkn
      obtain ⟨e1, e2⟩ := ih (by omega)
      obtain ⟨ds, r, a1, a2, a3⟩ := putAll_step h1 (show k < n by omega)
      obtain ⟨es, s, b1, b2, b3⟩ := putAll_step h2 (show k < n by omega)
      have he2 := he
      rw [a3, b3, a2, b2, e2, List.append_assoc, List.append_assoc] at he2
      obtain ⟨c1, c2, c3⟩ := hk k (by omega)
      obtain ⟨p1, p2⟩ := putB_part (hx k (by omega)) (hy k (by omega)) c2 c3 c1 a1 b1 (List.append_cancel_left he2)
      have hd := putB_eqv c2 c3 c1 p1
      rw [a1, b1] at hd
      simp only [Sum.inr.injEq] at hd
      exact ⟨by show (eqAll X Y k && eqv (X k) (Y k)) = true; rw [e1, p1]; rfl, by rw [a2, b2, e2, hd]⟩
  have bwd : ∀ k, k ≤ n → eqAll X Y k = true → putAll X k = putAll Y k := by
    intro k
    induction k with
    | zero => intro _ _; rfl
    | succ k ih =>
      intro hkn he
      have he' : (eqAll X Y k && eqv (X k) (Y k)) = true := he
      rw [Bool.and_eq_true] at he'
      obtain ⟨c1, c2, c3⟩ := hk k (by omega)
      have hd := putB_eqv c2 c3 c1 he'.2
      show putStep (putAll X k) (X k) = putStep (putAll Y k) (Y k)
      rw [ih (by omega) he'.1]
      unfold putStep
      rw [hd]
  cases hc : eqAll X Y n with
  | true => rw [bwd n (Nat.le_refl _) hc]; simp
  | false =>
    rw [decide_eq_false_iff_not]
    intro he
    rw [(fwd he n (Nat.le_refl _)).1] at hc
    cases hc
end Go.Proofs.Ytfdbdhknamkipaa
