namespace Go.Proofs.YtpfekbbmbdegbaaDoor.Hx
/-- a digit -/
def dg (n : Nat) : Nat := if n < 10 then 48 + n else 87 + n
def hex : List Nat → List Nat
  | [] => []
  | b :: t => dg (b / 16) :: dg (b % 16) :: hex t
theorem hex_app (a b : List Nat) : hex (a ++ b) = hex a ++ hex b := by
  induction a with
  | nil => rfl
  | cons x t ih => simp [hex, ih]
theorem hex_len (a : List Nat) : (hex a).length = 2 * a.length := by
  induction a with
  | nil => rfl
  | cons x t ih => simp [hex, ih]; omega
theorem dg_lt {n : Nat} (h : n < 16) : dg n < 256 := by unfold dg; split <;> omega
theorem hex_lt {a : List Nat} (h : ∀ x ∈ a, x < 256) : ∀ x ∈ hex a, x < 256 := by
  induction a with
  | nil => intro x hx; cases hx
  | cons b t ih =>
    intro x hx
    have hb := h b (by simp)
    simp only [hex, List.mem_cons] at hx
    rcases hx with rfl | rfl | hx
    · exact dg_lt (by omega)
    · exact dg_lt (by omega)
    · exact ih (fun y hy => h y (by simp [hy])) x hx
/-- the value of a digit -/
def val (c : Nat) : Option Nat := if 48 ≤ c ∧ c ≤ 57 then some (c - 48) else if 97 ≤ c ∧ c ≤ 102 then some (c - 87) else none
theorem val_lt {c v : Nat} (h : val c = some v) : v < 16 := by
  unfold val at h
  split at h
  · simp at h; omega
  · split at h
    · simp at h; omega
    · cases h
theorem val_dg {n : Nat} (h : n < 16) : val (dg n) = some n := by
  have : ∀ i : Fin 16, val (dg i.val) = some i.val := by decide +kernel
  exact this ⟨n, h⟩
theorem dg_val {c v : Nat} (h : val c = some v) : dg v = c := by
  unfold val at h
  unfold dg
  split at h
  · simp at h; subst h; rw [if_pos (by omega)]; omega
  · split at h
    · simp at h; subst h; rw [if_neg (by omega)]; omega
    · cases h
/-- the bytes whose digits these are -/
def un : List Nat → Option (List Nat)
  | [] => some []
  | [_] => none
  | a :: b :: t => match val a, val b, un t with
    | some x, some y, some r => some ((16 * x + y) :: r)
    | _, _, _ => none
theorem un_hex {a : List Nat} (h : ∀ x ∈ a, x < 256) : un (hex a) = some a := by
  induction a with
  | nil => rfl
  | cons b t ih =>
    have hb := h b (by simp)
    simp only [hex, un, val_dg (show b / 16 < 16 by omega), val_dg (show b % 16 < 16 by omega), ih (fun y hy => h y (by simp [hy]))]
    congr 2; omega
theorem hex_un (n : Nat) : ∀ (s r : List Nat), s.length ≤ n → un s = some r → hex r = s ∧ ∀ x ∈ r, x < 256 := by
  induction n with
  | zero =>
    intro s r hs h
    obtain rfl : s = [] := List.eq_nil_of_length_eq_zero (by omega)
    simp [un] at h; subst h; exact ⟨rfl, by simp⟩
  | succ n ih =>
    intro s r hs h
    match s, hs, h with
    | [], _, h => simp [un] at h; subst h; exact ⟨rfl, by simp⟩
    | [_], _, h => simp [un] at h
    | a :: b :: t, hs, h =>
      simp only [un] at h
      split at h
      · rename_i x y q hx hy hq
        simp only [Option.some.injEq] at h
        subst h
        obtain ⟨h1, h2⟩ := ih t q (by simp at hs; omega) hq
        have lx := val_lt hx
        have ly := val_lt hy
        refine ⟨?_, ?_⟩
        · simp only [hex]
          rw [show (16 * x + y) / 16 = x by omega, show (16 * x + y) % 16 = y by omega, dg_val hx, dg_val hy, h1]
        · intro z hz
          simp only [List.mem_cons] at hz
          rcases hz with rfl | hz
          · omega
          · exact h2 z hz
      · cases h
end Go.Proofs.YtpfekbbmbdegbaaDoor.Hx
