import Derived.Test.YtgkomejckbccdaaDoorMk
namespace Go.Proofs.YtgkomejckbccdaaDoor.Mk
theorem getD_app_lt (P Q : List ByteArray) (i : Nat) (h : i < P.length) : (P ++ Q).getD i ByteArray.empty = P.getD i ByteArray.empty := by
  rw [List.getD_eq_getElem?_getD, List.getElem?_append_left h, List.getD_eq_getElem?_getD]
theorem getD_snoc (P : List ByteArray) (a : ByteArray) : (P ++ [a]).getD P.length ByteArray.empty = a := by simp [List.getD]
theorem up_prefix (d x : ByteArray) (P Q : List ByteArray) (m : Nat) : ∀ i n, m ≤ P.length → up d (P ++ Q) x m i n = up d P x m i n := by
  induction m with
  | zero => intro i n _; rfl
  | succ m ih =>
    intro i n h
    unfold up
    rw [getD_app_lt _ _ _ (by omega), ih _ _ (by omega), ih _ _ (by omega)]
theorem both_prefix (e : Bool) (old : ByteArray) (P Q : List ByteArray) (l : Nat) : ∀ m n kn, l ≤ P.length → both e (P ++ Q) old l m n kn = both e P old l m n kn := by
  induction l with
  | zero => intro m n kn _; rfl
  | succ l ih =>
    intro m n kn h
    unfold both
    rw [getD_app_lt _ _ l (by omega), getD_app_lt _ _ 0 (by omega), ih _ _ _ (by omega), ih _ _ _ (by omega)]
/-- R gives the roots of parts -/
def Nodes (R : Nat → Nat → ByteArray) (N : Nat) : Prop := ∀ f c, 2 ≤ c → f + c ≤ N → R f c = node (R f (spl c)) (R (f + spl c) (c - spl c))
theorem nodes_part (ls : List ByteArray) : Nodes (part ls) ls.length := fun _ _ h2 h => part_node h2 h
theorem path_up {R : Nat → Nat → ByteArray} {N : Nat} (hR : Nodes R N) (d : ByteArray) (k : Nat) : ∀ f c i, c ≤ k → i < c → f + c ≤ N → up d (path R f c i) (R (f + i) 1) (path R f c i).length i c = (R f c, true) := by
  induction k with
  | zero => intro f c i h1 h2; omega
  | succ k ih =>
    intro f c i hk hi hN
    by_cases h2 : c < 2
    · obtain rfl : c = 1 := by omega
      obtain rfl : i = 0 := by omega
      rw [path_one _ _ _ _ h2]
      rfl
    · have hl := spl_lt (n := c) (by omega)
      have hp := spl_pos c
      have hn := hR f c (by omega) hN
      by_cases hs : i < spl c
      · rw [path_left _ _ _ _ (by omega) hs, List.length_append, List.length_singleton]
        unfold up
        rw [if_neg (by omega), if_pos hs, getD_snoc, up_prefix _ _ _ _ _ _ _ (Nat.le_refl _), ih f (spl c) i (by omega) hs (by omega), hn]
      · have := ih (f + spl c) (c - spl c) (i - spl c) (by omega) (by omega) (by omega)
        rw [show f + spl c + (i - spl c) = f + i by omega] at this
        rw [path_right _ _ _ _ (by omega) hs, List.length_append, List.length_singleton]
        unfold up
        rw [if_neg (by omega), if_neg hs, getD_snoc, up_prefix _ _ _ _ _ _ _ (Nat.le_refl _), this, hn]
theorem path_len (k : Nat) : ∀ (R : Nat → Nat → ByteArray) (f c i : Nat), c ≤ 2 ^ k → (path R f c i).length ≤ k := by
  induction k with
  | zero => intro R f c i h; rw [path_one _ _ _ _ (by simp at h; omega)]; simp
  | succ k ih =>
    intro R f c i h
    by_cases h2 : c < 2
    · rw [path_one _ _ _ _ h2]; simp
    · have hl := spl_lt (n := c) (by omega)
      have hg := spl_ge (n := c) (by omega)
      have hk : spl c ≤ 2 ^ k := by
        unfold spl at hl ⊢
        have h3 : 2 ^ Nat.log2 (c - 1) < 2 ^ (k + 1) := by omega
        have := (Nat.pow_lt_pow_iff_right (by decide : 1 < 2)).1 h3
        exact Nat.pow_le_pow_right (by decide) (by omega)
      by_cases hs : i < spl c
      · have := ih R f (spl c) i hk
        rw [path_left _ _ _ _ (by omega) hs, List.length_append, List.length_singleton]; omega
      · have := ih R (f + spl c) (c - spl c) (i - spl c) (by omega)
        rw [path_right _ _ _ _ (by omega) hs, List.length_append, List.length_singleton]; omega
theorem up_len {d x : ByteArray} {P : List ByteArray} (R : Nat → Nat → ByteArray) (m : Nat) : ∀ f i n, i < n → ((up d P x m i n).2 = true ↔ m = (path R f n i).length) := by
  induction m with
  | zero =>
    intro f i n hi
    unfold up
    by_cases h1 : n = 1
    · subst h1; rw [if_pos rfl, path_one _ _ _ _ (by decide)]; simp
    · have h2 : 2 ≤ n := by omega
      rw [if_neg h1]
      by_cases hs : i < spl n
      · rw [path_left _ _ _ _ h2 hs]; simp
      · rw [path_right _ _ _ _ h2 hs]; simp
  | succ m ih =>
    intro f i n hi
    unfold up
    by_cases h1 : n = 1
    · subst h1; rw [if_pos rfl, path_one _ _ _ _ (by decide)]; simp
    · have h2 : 2 ≤ n := by omega
      have hl := spl_lt h2
      have hp := spl_pos n
      rw [if_neg h1]
      by_cases hs : i < spl n
      · rw [if_pos hs, path_left _ _ _ _ h2 hs]
        simp only [List.length_append, List.length_singleton]
        rw [ih f i (spl n) hs]; omega
      · rw [if_neg hs, path_right _ _ _ _ h2 hs]
        simp only [List.length_append, List.length_singleton]
        rw [ih (f + spl n) (i - spl n) (n - spl n) (by omega)]; omega
theorem spl_mid {m c : Nat} (h1 : spl c < m) (h2 : m ≤ c) (h3 : 2 ≤ c) : spl m = spl c := by
  have := spl_ge h3
  unfold spl at h1 this ⊢
  exact spl_eq h1 (by omega)
theorem proof_both {R : Nat → Nat → ByteArray} {N : Nat} (hR : Nodes R N) (e : Bool) (old : ByteArray) (k : Nat) : ∀ f c m kn, c ≤ k → 1 ≤ m → m ≤ c → f + c ≤ N → (kn = true → old = R f m) → both e (proof R f c m kn) old (proof R f c m kn).length m c kn = (R f m, R f c, true) := by
  induction k with
  | zero => intro f c m kn h1 h2 h3; omega
  | succ k ih =>
    intro f c m kn hk h1 hm hN ho
    by_cases hmc : m = c
    · subst hmc
      cases kn with
      | true => rw [proof_known]; simp [both, ho rfl]
      | false => rw [proof_open]; simp [both]
    · have h2 : 2 ≤ c := by omega
      have hl := spl_lt h2
      have hp := spl_pos c
      have hn := hR f c h2 hN
      by_cases hs : m ≤ spl c
      · rw [proof_left _ _ _ _ _ h2 hmc hs, List.length_append, List.length_singleton]
        unfold both
        rw [if_neg hmc, if_pos hs, getD_snoc, both_prefix _ _ _ _ _ _ _ _ (Nat.le_refl _), ih f (spl c) m kn (by omega) h1 hs (by omega) ho, hn]
      · have hm2 := hR f m (by omega) (by omega)
        rw [spl_mid (by omega) hm h2] at hm2
        rw [proof_right _ _ _ _ _ h2 hmc hs, List.length_append, List.length_singleton]
        unfold both
        rw [if_neg hmc, if_neg hs, getD_snoc, both_prefix _ _ _ _ _ _ _ _ (Nat.le_refl _), ih (f + spl c) (c - spl c) (m - spl c) false (by omega) (by omega) (by omega) (by omega) (fun h => by cases h), hn, hm2]
theorem ofStr_inj {a b : ByteArray} (h : ofStr a = ofStr b) : a = b := by rw [← str_ofStr a, ← str_ofStr b, h]
theorem cat_inj {a b c d : ByteArray} (h1 : a.size = c.size) (h : ofStr a ++ ofStr b = ofStr c ++ ofStr d) : a = c ∧ b = d := by
  obtain ⟨x, y⟩ := List.append_inj h (by rw [ofStr_len, ofStr_len, h1])
  exact ⟨ofStr_inj x, ofStr_inj y⟩
end Go.Proofs.YtgkomejckbccdaaDoor.Mk
