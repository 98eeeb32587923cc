import Derived.Test.YtpfekbbmbdegbaaDoorTag
namespace Go.Proofs.YtpfekbbmbdegbaaDoor.Hm
/-- T(i) -/
def T (k info : List Nat) : Nat → List Nat
  | 0 => []
  | i + 1 => tag k (T k info i ++ info ++ [(i + 1) % 256])
/-- the first i parts of an expansion -/
def ex (k info : List Nat) : Nat → List Nat
  | 0 => []
  | i + 1 => ex k info i ++ T k info (i + 1)
def expand (k info : List Nat) (n : Nat) : List Nat := (ex k info ((n + 31) / 32)).take n
def derive (m label : List Nat) : List Nat := expand (tag [] m) label 32
def chain (k label : List Nat) : Nat → List Nat
  | 0 => k
  | i + 1 => tag (chain k label i) label
theorem T_len (k info : List Nat) (i : Nat) : (T k info i).length ≤ 32 := by
  cases i with
  | zero => simp [T]
  | succ i => unfold T; rw [tag_len]; omega
theorem T_lt (k info : List Nat) (i : Nat) : ∀ b ∈ T k info i, b < 256 := by
  cases i with
  | zero => intro b hb; simp [T] at hb
  | succ i => exact tag_lt _ _
theorem ex_len (k info : List Nat) (i : Nat) : (ex k info i).length = 32 * i := by
  induction i with
  | zero => rfl
  | succ i ih => unfold ex; rw [List.length_append, ih]; unfold T; rw [tag_len]; omega
theorem ex_lt (k info : List Nat) (i : Nat) : ∀ b ∈ ex k info i, b < 256 := by
  induction i with
  | zero => intro b hb; simp [ex] at hb
  | succ i ih =>
    intro b hb
    unfold ex at hb
    rcases List.mem_append.1 hb with h | h
    · exact ih b h
    · exact T_lt _ _ _ b h
theorem ex_take (k info : List Nat) (i j : Nat) (h : i ≤ j) : (ex k info j).take (32 * i) = ex k info i := by
  induction j with
  | zero => obtain rfl : i = 0 := by omega
            rfl
  | succ j ih =>
    rcases Nat.lt_or_ge j i with h1 | h1
    · obtain rfl : i = j + 1 := by omega
      rw [List.take_of_length_le]; rw [ex_len]; omega
    · show (ex k info j ++ _).take _ = _
      rw [List.take_append_of_le_length (by rw [ex_len]; omega)]; exact ih h1
/-- any number of parts that is great enough -/
theorem expand_of (k info : List Nat) (n i : Nat) (h : n ≤ 32 * i) : (ex k info i).take n = expand k info n := by
  unfold expand
  have h2 : (n + 31) / 32 ≤ i := by omega
  rw [← ex_take k info _ i h2, List.take_take, Nat.min_eq_left (by omega)]
theorem expand_len (k info : List Nat) (n : Nat) : (expand k info n).length = n := by
  unfold expand; rw [List.length_take, ex_len]; omega
theorem expand_lt (k info : List Nat) (n : Nat) : ∀ b ∈ expand k info n, b < 256 := fun b hb => ex_lt _ _ _ b (List.mem_of_mem_take hb)
/-- fewer bytes are a prefix of more -/
theorem expand_take (k info : List Nat) (n m : Nat) (h : n ≤ m) : (expand k info m).take n = expand k info n := by
  have h1 := expand_of k info m ((m + 31) / 32) (by omega)
  rw [← h1, List.take_take, Nat.min_eq_left h]
  exact expand_of k info n _ (by omega)
theorem chain_add (k label : List Nat) (n m : Nat) : chain (chain k label n) label m = chain k label (n + m) := by
  induction m with
  | zero => rfl
  | succ m ih => show tag _ _ = tag _ _; rw [ih]; rfl
theorem chain_lt (k label : List Nat) (hk : ∀ b ∈ k, b < 256) (n : Nat) : ∀ b ∈ chain k label n, b < 256 := by
  cases n with
  | zero => exact hk
  | succ n => exact tag_lt _ _
theorem chain_len (k label : List Nat) (hk : k.length = 32) (n : Nat) : (chain k label n).length = 32 := by
  cases n with
  | zero => exact hk
  | succ n => exact tag_len _ _
end Go.Proofs.YtpfekbbmbdegbaaDoor.Hm
