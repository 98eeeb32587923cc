import Derived.Test.YtegfbmekpmdcaaaDoorTwo
namespace Go.Proofs.YtegfbmekpmdcaaaDoor.Hm
/-- a key of at most 64 bytes, filled up with zeros, each byte combined with x -/
def pad (k : List Nat) (x : Nat) : List Nat := (List.range 64).map fun i => k.getD i 0 ^^^ x
def key (k : List Nat) : List Nat := if 64 < k.length then Sh.sum k else k
def tag (k d : List Nat) : List Nat := Sh.sum (pad (key k) 92 ++ Sh.sum (pad (key k) 54 ++ d))
theorem pad_len (k : List Nat) (x : Nat) : (pad k x).length = 64 := by simp [pad]
theorem pad_getD (k : List Nat) (x i : Nat) (h : i < 64) : (pad k x).getD i 0 = k.getD i 0 ^^^ x := by
  unfold pad
  rw [List.getD_eq_getElem?_getD, List.getElem?_map, List.getElem?_range h, Option.map_some, Option.getD_some]
theorem getD_lt {k : List Nat} (h : ∀ x ∈ k, x < 256) (i : Nat) : k.getD i 0 < 256 := by
  rw [List.getD_eq_getElem?_getD]
  rcases Nat.lt_or_ge i k.length with h2 | h2
  · rw [List.getElem?_eq_getElem h2]; exact h _ (List.getElem_mem _)
  · rw [List.getElem?_eq_none h2]; decide
theorem pad_lt {k : List Nat} {x : Nat} (h : ∀ b ∈ k, b < 256) (hx : x < 256) : ∀ b ∈ pad k x, b < 256 := by
  intro b hb
  simp only [pad, List.mem_map] at hb
  obtain ⟨i, _, rfl⟩ := hb
  exact Nat.xor_lt_two_pow (n := 8) (getD_lt h i) hx
theorem key_len (k : List Nat) : (key k).length ≤ 64 := by
  unfold key
  split
  · rw [Sh.sum_len]; decide
  · omega
theorem key_lt {k : List Nat} (h : ∀ b ∈ k, b < 256) : ∀ b ∈ key k, b < 256 := by
  unfold key
  split
  · exact Sh.sum_lt _
  · exact h
theorem tag_len (k d : List Nat) : (tag k d).length = 32 := Sh.sum_len _
theorem tag_lt (k d : List Nat) : ∀ b ∈ tag k d, b < 256 := Sh.sum_lt _
theorem pad_snoc (k : List Nat) (x : Nat) : pad (k ++ [0]) x = pad k x := by
  unfold pad
  apply List.map_congr_left
  intro i _
  congr 1
  rcases Nat.lt_or_ge i k.length with h | h
  · simp [List.getD, List.getElem?_append_left h]
  · rcases Nat.lt_or_ge i (k.length + 1) with h2 | h2
    · obtain rfl : i = k.length := by omega
      simp [List.getD]
    · simp [List.getD, List.getElem?_append_right h, h, show ¬ i - k.length < 1 by omega]
/-- a zero byte more -/
theorem tag_zero (k d : List Nat) (h : k.length < 64) : tag (k ++ [0]) d = tag k d := by
  have e1 : key (k ++ [0]) = k ++ [0] := by unfold key; rw [if_neg (by simp; omega)]
  have e2 : key k = k := by unfold key; rw [if_neg (by omega)]
  unfold tag
  rw [e1, e2, pad_snoc, pad_snoc]
/-- a long key is its sum -/
theorem tag_sum (k d : List Nat) (h : 64 < k.length) : tag (Sh.sum k) d = tag k d := by
  have e1 : key (Sh.sum k) = Sh.sum k := by unfold key; rw [if_neg (by rw [Sh.sum_len]; decide)]
  have e2 : key k = Sh.sum k := by unfold key; rw [if_pos h]
  unfold tag
  rw [e1, e2]
end Go.Proofs.YtegfbmekpmdcaaaDoor.Hm
