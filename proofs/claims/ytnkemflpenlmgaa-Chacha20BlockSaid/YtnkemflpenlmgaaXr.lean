import Derived.Test.YtnkemflpenlmgaaCopyB
import Derived.StillTailTactics
import Derived.BigRegion
namespace Go.Proofs.Ytnkemflpenlmgaa
open Go.RowKit
/-- the exclusive or of corresponding bytes -/
def xo (xs ys : List Nat) : List Nat := (List.range xs.length).map fun i => xs.getD i 0 ^^^ ys.getD i 0
theorem xo_len (xs ys : List Nat) : (xo xs ys).length = xs.length := by simp [xo]
theorem xo_get (xs ys : List Nat) (i : Nat) (h : i < xs.length) : (xo xs ys).getD i 0 = xs.getD i 0 ^^^ ys.getD i 0 := by simp [xo, List.getD, h]
theorem getD_lt256 {xs : List Nat} (h : ∀ x ∈ xs, x < 256) (i : Nat) : xs.getD i 0 < 256 := by
  rw [List.getD_eq_getElem?_getD]
  rcases Nat.lt_or_ge i xs.length with h2 | h2
  · rw [List.getElem?_eq_getElem h2]; exact h _ (List.getElem_mem h2)
  · rw [List.getElem?_eq_none h2]; decide
theorem xo_lt {xs ys : List Nat} (hx : ∀ x ∈ xs, x < 256) (hy : ∀ y ∈ ys, y < 256) : ∀ z ∈ xo xs ys, z < 256 := by
  intro z hz
  simp only [xo, List.mem_map] at hz
  obtain ⟨i, _, rfl⟩ := hz
  exact Nat.xor_lt_two_pow (n := 8) (getD_lt256 hx i) (getD_lt256 hy i)
theorem xo_comm {xs ys : List Nat} (h : xs.length = ys.length) : xo xs ys = xo ys xs := by
  unfold xo
  rw [h]
  apply List.map_congr_left
  intro i _
  exact Nat.xor_comm _ _
theorem xo_twice {xs ys : List Nat} : xo (xo xs ys) ys = xs := by
  apply List.ext_getElem
  · rw [xo_len, xo_len]
  · intro i h1 h2
    have e := xo_get (xo xs ys) ys i (by rw [xo_len]; exact h2)
    rw [xo_get xs ys i h2, Nat.xor_assoc, Nat.xor_self, Nat.xor_zero, List.getD_eq_getElem?_getD, List.getElem?_eq_getElem h1, List.getD_eq_getElem?_getD, List.getElem?_eq_getElem h2] at e
    exact e
structure XoR (w : World) (F : Nat → Nat) (n k : Nat) (wr : World) : Prop where
  row : Blk wr w.heap.size 5 (rowA .u8 F n k)
  bel : Below w.heap.size w wr
theorem XoR.step {w wr : World} {F : Nat → Nat} {n k v : Nat} (R : XoR w F n k wr) (hv : v = F k) : XoR w F n (k + 1) ((wr.setCell ⟨w.heap.size, k, none⟩ (.int .u8 v)).drewN 1) :=
  ⟨by have := (R.row.set_ k (.int .u8 v)).drewN 1; rwa [rowA_set _ _ _ _ _ (by rw [hv])] at this, below_drewN (R.bel.setCell (Nat.le_refl _) _) 1⟩
theorem XoR.start (w : World) (F : Nat → Nat) (n : Nat) : XoR w F n 0 (w.alloc (.cells (rowA .u8 (fun _ => 0) n 0) 5)) :=
  ⟨by rw [rowA_zero _ F (fun _ => 0)]; exact Blk.new _ _ _, (Below.refl _ _).alloc (Nat.le_refl _) _⟩
set_option maxRecDepth 100000 in
theorem xor_ok (a b : Option Addr) (n c1 m c2 : Nat) (xs ys : List Nat) (hn : n = xs.length) (hmn : m = n) (hx : ∀ x ∈ xs, x < 256) (hy : ∀ y ∈ ys, y < 256) (hyl : ys.length = n) (hbig : n ≤ 140737488355328) (w : World) (h1 : Bytes w a xs) (h2 : Bytes w b ys) :
    Calls Try.prog 19 #[.slice a n c1, .slice b m c2] w fun e w' => e = .returned (.tuple #[.slice (some ⟨w.heap.size, 0, none⟩) n n, .int .i64 0]) ∧ Bytes w' (some ⟨w.heap.size, 0, none⟩) (xo xs ys) ∧ Below w.heap.size w w' := by
  subst hmn
  have hmk := makeLen m hbig
  obtain ⟨F, hF⟩ : ∃ F : Nat → Nat, Hid (∀ i, i < m → F i = xs.getD i 0 ^^^ ys.getD i 0) := ⟨_, fun _ _ => rfl⟩
  have hfin : Hid (∀ i, i < m → (xo xs ys).getD i 0 = F (0 + i)) := fun i hi => by rw [xo_get _ _ _ (by omega), Nat.zero_add, hF.out i hi]
  have hlen : Hid ((xo xs ys).length = m) := by show _ = _; rw [xo_len, hn]
  have n2 := hidIt hn
  have y2 := hidIt hyl
  have p1 := hidIt h1
  have p2 := hidIt h2
  have bx := hidIt (getD_lt256 hx)
  have bY := hidIt (getD_lt256 hy)
  have R0 := hidIt (XoR.start w F m)
  clear hn hyl h1 h2 hx hy
  go_enter Try.func19, Try.ntmps19
  go_wp2_with (fail)
  go_loopw [18, 7] (fun i _ wr => ∃ k : Nat, k ≤ m ∧ i = .int .i64 k ∧ Hid (XoR w F m k wr)) (fun i _ _ => m - (intOf i).toNat)
  case atStart => exact ⟨0, by omega, rfl, R0⟩
  case round =>
    clear R0
    obtain ⟨k, hk, rfl, R⟩ := hrel
    by_cases hlt : k < m
    · obtain ⟨x, hx⟩ : ∃ x, Hid (xs.getD k 0 = x) := ⟨_, rfl⟩
      obtain ⟨y, hy⟩ : ∃ y, Hid (ys.getD k 0 = y) := ⟨_, rfl⟩
      have xb : x < 256 := by rw [← hx.out]; exact bx.out k
      have yb : y < 256 := by rw [← hy.out]; exact bY.out k
      obtain ⟨b1, o1, rfl, f1⟩ := (p1.out.below R.out.bel) k (by have := n2.out; omega)
      obtain ⟨b2, o2, rfl, f2⟩ := (p2.out.below R.out.bel) k (by have := y2.out; omega)
      rw [hx.out] at f1
      rw [hy.out] at f2
      have d1 := R.out.row.cell k
      rw [rowA_at _ _ _ _ hlt] at d1
      have d3 := R.out.row.frozen k
      have hxor : bits BinOp.xor IntKind.u8 (x : Int) (y : Int) = ((x ^^^ y : Nat) : Int) := u8_xor_nat _ _ xb yb
      have hv : Hid (x ^^^ y = F k) := by show _ = _; rw [hF.out k hlt, hx.out, hy.out]
      have t1 : (k : Int) < (m : Int) := by omega
      go_wp2
      go_still_tail 12, (by kernel_rfl)
      repeat still_step
      change wpList _ _ _ _ _ wr.drew
      have R2 := hidIt R.out
      clear R
      go_wp2
      go_roundw
      case rel => exact ⟨k + 1, by omega, by go_num, R2.out.step hv.out⟩
      case measure => simp [intOf]; omega
    · obtain rfl : k = m := by omega
      have t1 : ¬ (k : Int) < (k : Int) := by omega
      go_wp2
      go_ret2
      exact ⟨rfl, blk_bytes (off := 0) R.out.row _ hlen.out (by omega) hfin.out, R.out.bel⟩
set_option maxRecDepth 100000 in
theorem xor_err (a b : Option Addr) (n c1 m c2 : Nat) (h : n ≠ m) (w : World) :
    Calls Try.prog 19 #[.slice a n c1, .slice b m c2] w fun e w' => e = .returned (.tuple #[.slice none 0 0, .int .i64 1]) ∧ w = w' := by
  have h2 : ((n : Int) != (m : Int)) = true := by simp; omega
  have h3 : ¬ (n : Int) = (m : Int) := by omega
  go_enter Try.func19, Try.ntmps19
  go_wp2
  go_ret2
  exact ⟨rfl, rfl⟩
end Go.Proofs.Ytnkemflpenlmgaa
