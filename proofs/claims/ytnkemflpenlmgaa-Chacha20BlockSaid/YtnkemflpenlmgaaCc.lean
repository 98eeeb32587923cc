namespace Go.Proofs.Ytnkemflpenlmgaa.Cc
/-- rotated to the left by n -/
def rl (x n : Nat) : Nat := x % 2 ^ (32 - n) * 2 ^ n + x / 2 ^ (32 - n)
def add (a b : Nat) : Nat := (a + b) % 4294967296
structure Q where
  a : Nat
  b : Nat
  c : Nat
  d : Nat
structure Q.Ok (q : Q) : Prop where
  a : q.a < 4294967296
  b : q.b < 4294967296
  c : q.c < 4294967296
  d : q.d < 4294967296
/-- half a quarter round -/
def hf (m n : Nat) (s : Q) : Q :=
  let a := add s.a s.b
  let d := rl (s.d ^^^ a) m
  let c := add s.c d
  let b := rl (s.b ^^^ c) n
  ⟨a, b, c, d⟩
def qr (s : Q) : Q := hf 8 7 (hf 16 12 s)
theorem xor_lt {a b : Nat} (ha : a < 4294967296) (hb : b < 4294967296) : a ^^^ b < 4294967296 := Nat.xor_lt_two_pow (n := 32) ha hb
theorem or_lt {a b : Nat} (ha : a < 4294967296) (hb : b < 4294967296) : a ||| b < 4294967296 := Nat.or_lt_two_pow (n := 32) ha hb
theorem add_lt (a b : Nat) : add a b < 4294967296 := Nat.mod_lt _ (by decide)
theorem pow_split {n : Nat} (h : n ≤ 32) : 2 ^ (32 - n) * 2 ^ n = 4294967296 := by rw [← Nat.pow_add, show 32 - n + n = 32 by omega]
theorem rl_lt {x n : Nat} (h : x < 4294967296) (hn : n ≤ 32) : rl x n < 4294967296 := by
  unfold rl
  have hp := pow_split hn
  have h1 : x % 2 ^ (32 - n) < 2 ^ (32 - n) := Nat.mod_lt _ (Nat.two_pow_pos _)
  have h2 : x / 2 ^ (32 - n) < 2 ^ n := by rw [Nat.div_lt_iff_lt_mul (Nat.two_pow_pos _), Nat.mul_comm, hp]; exact h
  have h3 : (x % 2 ^ (32 - n) + 1) * 2 ^ n ≤ 2 ^ (32 - n) * 2 ^ n := Nat.mul_le_mul_right _ h1
  rw [Nat.succ_mul] at h3
  omega
theorem rl_or {x n : Nat} (h : x < 4294967296) (hn : n ≤ 32) : (x * 2 ^ n % 4294967296) ||| (x / 2 ^ (32 - n)) = rl x n := by
  have hp := pow_split hn
  have h2 : x / 2 ^ (32 - n) < 2 ^ n := by rw [Nat.div_lt_iff_lt_mul (Nat.two_pow_pos _), Nat.mul_comm, hp]; exact h
  have e : x * 2 ^ n % 4294967296 = (x % 2 ^ (32 - n)) <<< n := by rw [← hp, Nat.mul_mod_mul_right, Nat.shiftLeft_eq]
  rw [e, ← Nat.shiftLeft_add_eq_or_of_lt h2, Nat.shiftLeft_eq]
  rfl
/-- rotated to the right by n, as the statements have it -/
theorem rr_rl {x n : Nat} (h : x < 4294967296) (hn : n ≤ 32) : (rl x n / 2 ^ n) ||| (rl x n * 2 ^ (32 - n) % 4294967296) = x := by
  have hl := rl_lt h hn
  have hp := pow_split hn
  have k := rl_or hl (n := 32 - n) (by omega)
  rw [show 32 - (32 - n) = n by omega] at k
  rw [Nat.or_comm, k]
  have h2 : x / 2 ^ (32 - n) < 2 ^ n := by rw [Nat.div_lt_iff_lt_mul (Nat.two_pow_pos _), Nat.mul_comm, hp]; exact h
  unfold rl
  rw [show 32 - (32 - n) = n by omega, Nat.mul_comm (x % 2 ^ (32 - n)), Nat.mul_add_mod, Nat.mod_eq_of_lt h2, Nat.mul_add_div (Nat.two_pow_pos _), Nat.div_eq_of_lt h2, Nat.add_zero, Nat.mul_comm]
  exact Nat.div_add_mod x _
theorem hf_ok {q : Q} (h : q.Ok) {m n : Nat} (hm : m ≤ 32) (hn : n ≤ 32) : (hf m n q).Ok := ⟨add_lt _ _, rl_lt (xor_lt h.b (add_lt _ _)) hn, add_lt _ _, rl_lt (xor_lt h.d (add_lt _ _)) hm⟩
theorem qr_ok {q : Q} (h : q.Ok) : (qr q).Ok := hf_ok (hf_ok h (by decide) (by decide)) (by decide) (by decide)
theorem xor_back (a b : Nat) : (a ^^^ b) ^^^ b = a := by rw [Nat.xor_assoc, Nat.xor_self, Nat.xor_zero]
theorem sub_back {a b : Nat} (ha : a < 4294967296) : ((add a b : Int) - (b : Int)) % 4294967296 = (a : Int) := by unfold add; omega
/-- the quarter rounds of a double round -/
def tb : List (Nat × Nat × Nat × Nat) := [(0, 4, 8, 12), (1, 5, 9, 13), (2, 6, 10, 14), (3, 7, 11, 15), (0, 5, 10, 15), (1, 6, 11, 12), (2, 7, 8, 13), (3, 4, 9, 14)]
def T (t : Nat) : Nat × Nat × Nat × Nat := tb.getD t (0, 0, 0, 0)
def at4 (xs : List Nat) (p : Nat × Nat × Nat × Nat) : Q := ⟨xs.getD p.1 0, xs.getD p.2.1 0, xs.getD p.2.2.1 0, xs.getD p.2.2.2 0⟩
def put4 (xs : List Nat) (p : Nat × Nat × Nat × Nat) (q : Q) : List Nat := (((xs.set p.1 q.a).set p.2.1 q.b).set p.2.2.1 q.c).set p.2.2.2 q.d
/-- a quarter round of words of a state -/
def qs (xs : List Nat) (p : Nat × Nat × Nat × Nat) : List Nat := put4 xs p (qr (at4 xs p))
def qn (xs : List Nat) : Nat → List Nat
  | 0 => xs
  | t + 1 => qs (qn xs t) (T t)
def rn (xs : List Nat) : Nat → List Nat
  | 0 => xs
  | r + 1 => qn (rn xs r) 8
structure Ok (xs : List Nat) : Prop where
  len : xs.length = 16
  lt : ∀ i, xs.getD i 0 < 4294967296
theorem set_lt {xs : List Nat} (h : ∀ i, xs.getD i 0 < 4294967296) (k : Nat) {v : Nat} (hv : v < 4294967296) : ∀ i, (xs.set k v).getD i 0 < 4294967296 := by
  intro i
  rw [List.getD_eq_getElem?_getD, List.getElem?_set]
  split
  · split
    · exact hv
    · decide
  · rw [← List.getD_eq_getElem?_getD]; exact h i
theorem set_ok {xs : List Nat} (h : Ok xs) (k : Nat) {v : Nat} (hv : v < 4294967296) : Ok (xs.set k v) := ⟨by rw [List.length_set]; exact h.len, set_lt h.lt k hv⟩
theorem at4_ok {xs : List Nat} (h : Ok xs) (p) : (at4 xs p).Ok := ⟨h.lt _, h.lt _, h.lt _, h.lt _⟩
theorem put4_ok {xs : List Nat} (h : Ok xs) (p) {q : Q} (hq : q.Ok) : Ok (put4 xs p q) := set_ok (set_ok (set_ok (set_ok h _ hq.a) _ hq.b) _ hq.c) _ hq.d
theorem qs_ok {xs : List Nat} (h : Ok xs) (p) : Ok (qs xs p) := put4_ok h p (qr_ok (at4_ok h p))
theorem qn_ok {xs : List Nat} (h : Ok xs) (t : Nat) : Ok (qn xs t) := by
  induction t with
  | zero => exact h
  | succ t ih => exact qs_ok ih _
theorem rn_ok {xs : List Nat} (h : Ok xs) (t : Nat) : Ok (rn xs t) := by
  induction t with
  | zero => exact h
  | succ t ih => exact qn_ok ih _
/-- the word k of the sums -/
def sumw (xs : List Nat) (k : Nat) : Nat := add ((rn xs 10).getD k 0) (xs.getD k 0)
def byt (x r : Nat) : Nat := x / 2 ^ (8 * r) % 256
/-- the bytes of a block with this initial state -/
def block (xs : List Nat) : List Nat := (List.range 64).map fun i => byt (sumw xs (i / 4)) (i % 4)
theorem block_len (xs : List Nat) : (block xs).length = 64 := by simp [block]
theorem block_get (xs : List Nat) (i : Nat) (h : i < 64) : (block xs).getD i 0 = byt (sumw xs (i / 4)) (i % 4) := by simp [block, List.getD, h]
theorem byt_lt (x r : Nat) : byt x r < 256 := Nat.mod_lt _ (by decide)
theorem block_lt (xs : List Nat) : ∀ x ∈ block xs, x < 256 := by
  intro x hx
  simp only [block, List.mem_map] at hx
  obtain ⟨i, _, rfl⟩ := hx
  exact byt_lt _ _
/-- the word j of bytes -/
def word (m : Nat → Nat) (j : Nat) : Nat := m (4 * j) + m (4 * j + 1) * 256 + m (4 * j + 2) * 65536 + m (4 * j + 3) * 16777216
theorem word_lt {m : Nat → Nat} (h : ∀ i, m i < 256) (j : Nat) : word m j < 4294967296 := by
  have := h (4 * j); have := h (4 * j + 1); have := h (4 * j + 2); have := h (4 * j + 3)
  unfold word; omega
/-- the initial state -/
def init (ks ns : List Nat) (c : Nat) : List Nat :=
  [0x61707865, 0x3320646e, 0x79622d32, 0x6b206574] ++ ((List.range 8).map (word fun i => ks.getD i 0)) ++ [c] ++ ((List.range 3).map (word fun i => ns.getD i 0))
theorem init_len (ks ns : List Nat) (c : Nat) : (init ks ns c).length = 16 := by simp [init]
theorem init_ok {ks ns : List Nat} {c : Nat} (hk : ∀ i, ks.getD i 0 < 256) (hn : ∀ i, ns.getD i 0 < 256) (hc : c < 4294967296) : Ok (init ks ns c) := by
  refine ⟨init_len _ _ _, fun i => ?_⟩
  have hm : ∀ x ∈ init ks ns c, x < 4294967296 := by
    intro x hx
    simp only [init, List.mem_append, List.mem_map, List.mem_cons, List.not_mem_nil, or_false] at hx
    rcases hx with ((hx | ⟨i, _, rfl⟩) | rfl) | ⟨i, _, rfl⟩
    · omega
    · exact word_lt hk i
    · exact hc
    · exact word_lt hn i
  rw [List.getD_eq_getElem?_getD]
  rcases Nat.lt_or_ge i (init ks ns c).length with h | h
  · rw [List.getElem?_eq_getElem h]; exact hm _ (List.getElem_mem h)
  · rw [List.getElem?_eq_none h]; show 0 < 4294967296; omega
/-- the byte p of the key stream -/
def ksb (ks ns : List Nat) (p : Nat) : Nat := (block (init ks ns (p / 64 % 4294967296))).getD (p % 64) 0
def stream (ks ns : List Nat) (o n : Nat) : List Nat := (List.range n).map fun i => ksb ks ns (o + i)
theorem stream_len (ks ns : List Nat) (o n : Nat) : (stream ks ns o n).length = n := by simp [stream]
theorem stream_get (ks ns : List Nat) (o n i : Nat) (h : i < n) : (stream ks ns o n).getD i 0 = ksb ks ns (o + i) := by simp [stream, List.getD, h]
theorem ksb_lt (ks ns : List Nat) (p : Nat) : ksb ks ns p < 256 := by
  unfold ksb; rw [block_get _ _ (Nat.mod_lt _ (by decide))]; exact byt_lt _ _
theorem stream_lt (ks ns : List Nat) (o n : Nat) : ∀ x ∈ stream ks ns o n, x < 256 := by
  intro x hx
  simp only [stream, List.mem_map] at hx
  obtain ⟨i, _, rfl⟩ := hx
  exact ksb_lt _ _ _
theorem stream_append (ks ns : List Nat) (o n m : Nat) : stream ks ns o n ++ stream ks ns (o + n) m = stream ks ns o (n + m) := by
  unfold stream
  rw [List.range_add, List.map_append, List.map_map]
  refine congrArg (fun l => List.map (fun i => ksb ks ns (o + i)) (List.range n) ++ l) ?_
  apply List.map_congr_left
  intro i _
  show _ = ksb ks ns (o + (n + i))
  rw [Nat.add_assoc]
theorem stream_block (ks ns : List Nat) (c : Nat) (hc : c < 4294967296) : stream ks ns (c * 64) 64 = block (init ks ns c) := by
  apply List.ext_getElem
  · rw [stream_len, block_len]
  · intro i h1 h2
    rw [stream_len] at h1
    simp only [stream, List.getElem_map, List.getElem_range]
    unfold ksb
    rw [show (c * 64 + i) / 64 = c by omega, show (c * 64 + i) % 64 = i by omega, Nat.mod_eq_of_lt hc, List.getD_eq_getElem?_getD, List.getElem?_eq_getElem h2]
    rfl
def exKey : List Nat := List.range 32
def exNonce : List Nat := [0, 0, 0, 9, 0, 0, 0, 74, 0, 0, 0, 0]
theorem ex_block : (block (init exKey exNonce 1)).take 8 = [16, 241, 231, 228, 209, 59, 89, 21] := by decide +kernel
theorem ex_quarter : qr ⟨0x11111111, 0x01020304, 0x9b8d6f43, 0x01234567⟩ = ⟨0xea2a92f4, 0xcb1cf8ce, 0x4581472e, 0x5881c4bb⟩ := by
  have h : ∀ p q : Q, p.a = q.a ∧ p.b = q.b ∧ p.c = q.c ∧ p.d = q.d → p = q := by
    rintro ⟨_, _, _, _⟩ ⟨_, _, _, _⟩ ⟨rfl, rfl, rfl, rfl⟩; rfl
  apply h; decide +kernel
end Go.Proofs.Ytnkemflpenlmgaa.Cc
