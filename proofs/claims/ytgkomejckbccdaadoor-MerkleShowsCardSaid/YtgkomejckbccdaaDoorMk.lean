import Derived.Test.YtgkomejckbccdaaDoorTwo
namespace Go.Proofs.YtgkomejckbccdaaDoor.Mk
def node (l r : ByteArray) : ByteArray := str (Sh.sum (1 :: (ofStr l ++ ofStr r)))
def leaf (xs : List Nat) : ByteArray := str (Sh.sum (0 :: xs))
def none : ByteArray := str (Sh.sum [])
theorem node_size (l r : ByteArray) : (node l r).size = 32 := by rw [node, str_size, Sh.sum_len]
theorem leaf_size (xs : List Nat) : (leaf xs).size = 32 := by rw [leaf, str_size, Sh.sum_len]
theorem none_size : none.size = 32 := by rw [none, str_size, Sh.sum_len]
/-- the split -/
def spl (n : Nat) : Nat := 2 ^ Nat.log2 (n - 1)
theorem spl_pos (n : Nat) : 0 < spl n := Nat.two_pow_pos _
theorem spl_lt {n : Nat} (h : 2 ≤ n) : spl n < n := by
  have := Nat.log2_self_le (n := n - 1) (by omega)
  unfold spl; omega
theorem spl_ge {n : Nat} (h : 2 ≤ n) : n ≤ 2 * spl n := by
  have := Nat.lt_log2_self (n := n - 1)
  unfold spl; rw [Nat.pow_succ] at this; omega
theorem pow_between {i j : Nat} (h1 : 2 ^ i < 2 * 2 ^ j) (h2 : 2 ^ j < 2 * 2 ^ i) : i = j := by
  have e1 : (2 : Nat) * 2 ^ j = 2 ^ (j + 1) := by rw [Nat.pow_succ, Nat.mul_comm]
  have e2 : (2 : Nat) * 2 ^ i = 2 ^ (i + 1) := by rw [Nat.pow_succ, Nat.mul_comm]
  rw [e1] at h1; rw [e2] at h2
  have a := (Nat.pow_lt_pow_iff_right (by decide : 1 < 2)).1 h1
  have b := (Nat.pow_lt_pow_iff_right (by decide : 1 < 2)).1 h2
  omega
theorem spl_eq {n j : Nat} (h1 : 2 ^ j < n) (h2 : n ≤ 2 * 2 ^ j) : spl n = 2 ^ j := by
  have h0 : 2 ≤ n := by have := Nat.two_pow_pos j; omega
  have a := spl_lt h0
  have b := spl_ge h0
  unfold spl at *
  rw [pow_between (i := Nat.log2 (n - 1)) (j := j) (by omega) (by omega)]
def root (ls : List ByteArray) : ByteArray :=
  if _h : ls.length < 2 then ls.headD none else node (root (ls.take (spl ls.length))) (root (ls.drop (spl ls.length)))
termination_by ls.length
decreasing_by
  · have := spl_lt (n := ls.length) (by omega); simp; omega
  · have := spl_pos ls.length; simp; omega
theorem root_nil : root [] = none := by rw [root]; rfl
theorem root_one (a : ByteArray) : root [a] = a := by rw [root]; rfl
theorem root_more {ls : List ByteArray} (h : 2 ≤ ls.length) : root ls = node (root (ls.take (spl ls.length))) (root (ls.drop (spl ls.length))) := by
  rw [root, dif_neg (by omega)]
theorem root_size {ls : List ByteArray} (h : ls.length ≠ 1) : (root ls).size = 32 := by
  rcases Nat.lt_or_ge ls.length 2 with h2 | h2
  · have : ls = [] := List.eq_nil_of_length_eq_zero (by omega)
    subst this; rw [root_nil]; exact none_size
  · rw [root_more h2]; exact node_size _ _
theorem root_bound {ls : List ByteArray} {B : Nat} (hB : 32 ≤ B) (h : ∀ s ∈ ls, s.size ≤ B) : (root ls).size ≤ B := by
  by_cases h1 : ls.length = 1
  · match ls, h1 with
    | [a], _ => rw [root_one]; exact h a (by simp)
  · rw [root_size h1]; exact hB
theorem root_sum {ls : List ByteArray} (h : ∀ s ∈ ls, s.size = 32) : (root ls).size = 32 := by
  by_cases h1 : ls.length = 1
  · match ls, h1 with
    | [a], _ => rw [root_one]; exact h a (by simp)
  · exact root_size h1
/-- the root of a part -/
def part (ls : List ByteArray) (f c : Nat) : ByteArray := root ((ls.drop f).take c)
theorem part_one {ls : List ByteArray} {f : Nat} (h : f < ls.length) : part ls f 1 = ls.getD f ByteArray.empty := by
  have : (ls.drop f).take 1 = [ls.getD f ByteArray.empty] := by
    rw [List.drop_eq_getElem_cons h, List.take_succ_cons, List.take_zero]
    simp [List.getD, h]
  rw [part, this, root_one]
theorem part_node {ls : List ByteArray} {f c : Nat} (h2 : 2 ≤ c) (h : f + c ≤ ls.length) : part ls f c = node (part ls f (spl c)) (part ls (f + spl c) (c - spl c)) := by
  have hl : ((ls.drop f).take c).length = c := by simp; omega
  have hs := spl_lt h2
  rw [part, root_more (by omega), hl]
  congr 2
  · rw [List.take_take, Nat.min_eq_left (by omega)]
  · rw [List.drop_take, List.drop_drop]
theorem part_all (ls : List ByteArray) : part ls 0 ls.length = root ls := by rw [part, List.drop_zero, List.take_length]
theorem part_bound {ls : List ByteArray} {B : Nat} (hB : 32 ≤ B) (h : ∀ s ∈ ls, s.size ≤ B) (f c : Nat) : (part ls f c).size ≤ B :=
  root_bound hB fun s hs => h s (List.mem_of_mem_drop (List.mem_of_mem_take hs))
theorem part_sum {ls : List ByteArray} (h : ∀ s ∈ ls, s.size = 32) (f c : Nat) : (part ls f c).size = 32 :=
  root_sum fun s hs => h s (List.mem_of_mem_drop (List.mem_of_mem_take hs))
theorem part_take {ls : List ByteArray} {k f c : Nat} (h : f + c ≤ k) : part (ls.take k) f c = part ls f c := by
  unfold part
  rw [List.drop_take, List.take_take, Nat.min_eq_left (by omega)]
theorem part_drop (ls : List ByteArray) (k f c : Nat) : part (ls.drop k) f c = part ls (k + f) c := by
  unfold part
  rw [List.drop_drop]
def path (R : Nat → Nat → ByteArray) (f c i : Nat) : List ByteArray :=
  if _h : c < 2 then [] else if i < spl c then path R f (spl c) i ++ [R (f + spl c) (c - spl c)] else path R (f + spl c) (c - spl c) (i - spl c) ++ [R f (spl c)]
termination_by c
decreasing_by
  · exact spl_lt (by omega)
  · have := spl_pos c; omega
theorem path_one (R : Nat → Nat → ByteArray) (f c i : Nat) (h : c < 2) : path R f c i = [] := by rw [path, dif_pos h]
theorem path_left (R : Nat → Nat → ByteArray) (f c i : Nat) (h : 2 ≤ c) (hi : i < spl c) : path R f c i = path R f (spl c) i ++ [R (f + spl c) (c - spl c)] := by rw [path, dif_neg (by omega), if_pos hi]
theorem path_right (R : Nat → Nat → ByteArray) (f c i : Nat) (h : 2 ≤ c) (hi : ¬ i < spl c) : path R f c i = path R (f + spl c) (c - spl c) (i - spl c) ++ [R f (spl c)] := by rw [path, dif_neg (by omega), if_neg hi]
theorem path_congr (n : Nat) : ∀ (R S : Nat → Nat → ByteArray) (f g c i : Nat), c ≤ n → (∀ d e, d + e ≤ c → R (f + d) e = S (g + d) e) → path R f c i = path S g c i := by
  induction n with
  | zero => intro R S f g c i hc _; rw [path_one _ _ _ _ (by omega), path_one _ _ _ _ (by omega)]
  | succ n ih =>
    intro R S f g c i hc h
    by_cases h2 : c < 2
    · rw [path_one _ _ _ _ h2, path_one _ _ _ _ h2]
    · have hl := spl_lt (n := c) (by omega)
      have hp := spl_pos c
      by_cases hi : i < spl c
      · rw [path_left _ _ _ _ (by omega) hi, path_left _ _ _ _ (by omega) hi, ih R S f g (spl c) i (by omega) (fun d e hd => h d e (by omega)), h (spl c) (c - spl c) (by omega)]
      · have h0 := h 0 (spl c) (by omega)
        rw [path_right _ _ _ _ (by omega) hi, path_right _ _ _ _ (by omega) hi, ih R S (f + spl c) (g + spl c) (c - spl c) (i - spl c) (by omega) (fun d e hd => by rw [Nat.add_assoc, Nat.add_assoc]; exact h (spl c + d) e (by omega))]
        rw [Nat.add_zero, Nat.add_zero] at h0; rw [h0]
/-- the path of a leaf of a list -/
def pathL (ls : List ByteArray) (i : Nat) : List ByteArray := path (part ls) 0 ls.length i
theorem pathL_one {ls : List ByteArray} (i : Nat) (h : ls.length < 2) : pathL ls i = [] := path_one _ _ _ _ h
theorem pathL_left {ls : List ByteArray} {i : Nat} (h : 2 ≤ ls.length) (hi : i < spl ls.length) : pathL ls i = pathL (ls.take (spl ls.length)) i ++ [root (ls.drop (spl ls.length))] := by
  have hl := spl_lt h
  have e : (ls.take (spl ls.length)).length = spl ls.length := by rw [List.length_take]; omega
  unfold pathL
  rw [path_left _ _ _ _ h hi, e, path_congr _ (part ls) (part (ls.take (spl ls.length))) 0 0 _ i (Nat.le_refl _) (fun d e hd => by rw [Nat.zero_add, part_take hd])]
  congr 2
  rw [Nat.zero_add, part, List.take_of_length_le (by simp)]
theorem pathL_right {ls : List ByteArray} {i : Nat} (h : 2 ≤ ls.length) (hi : ¬ i < spl ls.length) : pathL ls i = pathL (ls.drop (spl ls.length)) (i - spl ls.length) ++ [root (ls.take (spl ls.length))] := by
  have hl := spl_lt h
  have e : (ls.drop (spl ls.length)).length = ls.length - spl ls.length := by rw [List.length_drop]
  unfold pathL
  rw [path_right _ _ _ _ h hi, e, path_congr _ (part ls) (part (ls.drop (spl ls.length))) (0 + spl ls.length) 0 _ (i - spl ls.length) (Nat.le_refl _) (fun d e hd => by rw [part_drop, Nat.zero_add, Nat.zero_add])]
  rfl
def proof (R : Nat → Nat → ByteArray) (f c m : Nat) (kn : Bool) : List ByteArray :=
  if m = c then (if kn = true then [] else [R f c]) else if _h : c < 2 then [] else if m ≤ spl c then proof R f (spl c) m kn ++ [R (f + spl c) (c - spl c)] else proof R (f + spl c) (c - spl c) (m - spl c) false ++ [R f (spl c)]
termination_by c
decreasing_by
  · exact spl_lt (by omega)
  · have := spl_pos c; omega
theorem proof_known (R : Nat → Nat → ByteArray) (f c : Nat) : proof R f c c true = [] := by rw [proof, if_pos rfl, if_pos rfl]
theorem proof_open (R : Nat → Nat → ByteArray) (f c : Nat) : proof R f c c false = [R f c] := by rw [proof, if_pos rfl, if_neg (by decide)]
theorem proof_left (R : Nat → Nat → ByteArray) (f c m : Nat) (kn : Bool) (h : 2 ≤ c) (hm : m ≠ c) (hi : m ≤ spl c) : proof R f c m kn = proof R f (spl c) m kn ++ [R (f + spl c) (c - spl c)] := by rw [proof, if_neg hm, dif_neg (by omega), if_pos hi]
theorem proof_right (R : Nat → Nat → ByteArray) (f c m : Nat) (kn : Bool) (h : 2 ≤ c) (hm : m ≠ c) (hi : ¬ m ≤ spl c) : proof R f c m kn = proof R (f + spl c) (c - spl c) (m - spl c) false ++ [R f (spl c)] := by rw [proof, if_neg hm, dif_neg (by omega), if_neg hi]
theorem proof_congr (n : Nat) : ∀ (R S : Nat → Nat → ByteArray) (f g c m : Nat) (kn : Bool), c ≤ n → m ≤ c → 1 ≤ m → (∀ d e, d + e ≤ c → R (f + d) e = S (g + d) e) → proof R f c m kn = proof S g c m kn := by
  induction n with
  | zero => intro R S f g c m kn hc h1 h2; omega
  | succ n ih =>
    intro R S f g c m kn hc h1 hm1 h
    have h0 := h 0
    simp only [Nat.add_zero, Nat.zero_add] at h0
    by_cases hm : m = c
    · subst hm
      cases kn with
      | true => rw [proof_known, proof_known]
      | false => rw [proof_open, proof_open, h0 m (by omega)]
    · have h2 : 2 ≤ c := by omega
      have hl := spl_lt h2
      have hp := spl_pos c
      by_cases hi : m ≤ spl c
      · rw [proof_left _ _ _ _ _ h2 hm hi, proof_left _ _ _ _ _ h2 hm hi, ih R S f g (spl c) m kn (by omega) hi hm1 (fun d e hd => h d e (by omega)), h (spl c) (c - spl c) (by omega)]
      · rw [proof_right _ _ _ _ _ h2 hm hi, proof_right _ _ _ _ _ h2 hm hi, ih R S (f + spl c) (g + spl c) (c - spl c) (m - spl c) false (by omega) (by omega) (by omega) (fun d e hd => by rw [Nat.add_assoc, Nat.add_assoc]; exact h (spl c + d) e (by omega)), h0 (spl c) (by omega)]
def proofL (ls : List ByteArray) (m : Nat) (kn : Bool) : List ByteArray := proof (part ls) 0 ls.length m kn
theorem proofL_left {ls : List ByteArray} {m : Nat} (kn : Bool) (h : 2 ≤ ls.length) (h1 : 1 ≤ m) (hm : m ≠ ls.length) (hi : m ≤ spl ls.length) : proofL ls m kn = proofL (ls.take (spl ls.length)) m kn ++ [root (ls.drop (spl ls.length))] := by
  have hl := spl_lt h
  have e : (ls.take (spl ls.length)).length = spl ls.length := by rw [List.length_take]; omega
  unfold proofL
  rw [proof_left _ _ _ _ _ h hm hi, e, proof_congr _ (part ls) (part (ls.take (spl ls.length))) 0 0 _ m kn (Nat.le_refl _) hi h1 (fun d e hd => by rw [Nat.zero_add, part_take hd])]
  congr 2
  rw [Nat.zero_add, part, List.take_of_length_le (by simp)]
theorem proofL_right {ls : List ByteArray} {m : Nat} (kn : Bool) (h : 2 ≤ ls.length) (hm : m ≠ ls.length) (hml : m ≤ ls.length) (hi : ¬ m ≤ spl ls.length) : proofL ls m kn = proofL (ls.drop (spl ls.length)) (m - spl ls.length) false ++ [root (ls.take (spl ls.length))] := by
  have hl := spl_lt h
  have e : (ls.drop (spl ls.length)).length = ls.length - spl ls.length := by rw [List.length_drop]
  unfold proofL
  rw [proof_right _ _ _ _ _ h hm hi, e, proof_congr _ (part ls) (part (ls.drop (spl ls.length))) (0 + spl ls.length) 0 _ (m - spl ls.length) false (Nat.le_refl _) (by omega) (by omega) (fun d e hd => by rw [part_drop, Nat.zero_add, Nat.zero_add])]
  rfl
/-- the root that follows from a leaf and the first m elements of a path; d where the path is too short -/
def up (d : ByteArray) (P : List ByteArray) (x : ByteArray) : Nat → Nat → Nat → ByteArray × Bool
  | 0, _, n => if n = 1 then (x, true) else (d, false)
  | m + 1, i, n => if n = 1 then (x, false) else if i < spl n then (node (up d P x m i (spl n)).1 (P.getD m ByteArray.empty), (up d P x m i (spl n)).2) else (node (P.getD m ByteArray.empty) (up d P x m (i - spl n) (n - spl n)).1, (up d P x m (i - spl n) (n - spl n)).2)
/-- the two roots that follow from the first l elements of a proof -/
def both (e : Bool) (P : List ByteArray) (old : ByteArray) : Nat → Nat → Nat → Bool → ByteArray × ByteArray × Bool
  | 0, m, n, kn => if m = n ∧ kn = true then (old, old, true) else (ByteArray.empty, ByteArray.empty, false)
  | l + 1, m, n, kn => if m = n then (if kn = true then (old, old, false) else if l = 0 then (P.getD 0 ByteArray.empty, P.getD 0 ByteArray.empty, true) else if e = true then (P.getD l ByteArray.empty, P.getD l ByteArray.empty, false) else (ByteArray.empty, ByteArray.empty, false))
    else if m ≤ spl n then ((both e P old l m (spl n) kn).1, node (both e P old l m (spl n) kn).2.1 (P.getD l ByteArray.empty), (both e P old l m (spl n) kn).2.2)
    else (node (P.getD l ByteArray.empty) (both e P old l (m - spl n) (n - spl n) false).1, node (P.getD l ByteArray.empty) (both e P old l (m - spl n) (n - spl n) false).2.1, (both e P old l (m - spl n) (n - spl n) false).2.2)
theorem up_size {d x : ByteArray} {P : List ByteArray} (hd : d.size ≤ 32) (hx : x.size ≤ 32) (m : Nat) : ∀ i n, (up d P x m i n).1.size ≤ 32 := by
  cases m with
  | zero => intro i n; unfold up; split <;> assumption
  | succ m => intro i n; unfold up; split
              · exact hx
              · split <;> (rw [node_size]; exact Nat.le_refl _)
theorem up_ok {d x : ByteArray} {P : List ByteArray} (d2 : ByteArray) (m : Nat) : ∀ i n, (up d P x m i n).2 = (up d2 P x m i n).2 ∧ ((up d P x m i n).2 = true → (up d P x m i n).1 = (up d2 P x m i n).1) := by
  induction m with
  | zero => intro i n; unfold up; split <;> simp
  | succ m ih =>
    intro i n
    unfold up
    split
    · simp
    · split
      · exact ⟨(ih _ _).1, fun h => by simp only at h ⊢; rw [(ih _ _).2 h]⟩
      · exact ⟨(ih _ _).1, fun h => by simp only at h ⊢; rw [(ih _ _).2 h]⟩
theorem both_ok {old : ByteArray} {P : List ByteArray} (e : Bool) (l : Nat) : ∀ m n kn, (both e P old l m n kn).2.2 = (both true P old l m n kn).2.2 ∧ ((both e P old l m n kn).2.2 = true → (both e P old l m n kn).1 = (both true P old l m n kn).1 ∧ (both e P old l m n kn).2.1 = (both true P old l m n kn).2.1) := by
  induction l with
  | zero => intro m n kn; unfold both; simp
  | succ l ih =>
    intro m n kn
    unfold both
    split
    · split
      · simp
      · split
        · simp
        · cases e <;> simp
    · split
      · exact ⟨(ih _ _ _).1, fun h => by simp only at h ⊢; exact ⟨((ih _ _ _).2 h).1, by rw [((ih _ _ _).2 h).2]⟩⟩
      · exact ⟨(ih _ _ _).1, fun h => by simp only at h ⊢; exact ⟨by rw [((ih _ _ _).2 h).1], by rw [((ih _ _ _).2 h).2]⟩⟩
end Go.Proofs.YtgkomejckbccdaaDoor.Mk
