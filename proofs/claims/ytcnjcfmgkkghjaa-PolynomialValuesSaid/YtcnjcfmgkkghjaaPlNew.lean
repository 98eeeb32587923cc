import Derived.Test.YtcnjcfmgkkghjaaPlIp
namespace Go.Proofs.Ytcnjcfmgkkghjaa
open Go.RowKit
/-- the first k elements are different -/
def Dst (X : List Nat) (k : Nat) : Prop := ∀ i j, i < j → j < k → X.getD i 0 ≠ X.getD j 0
theorem basis_zero (X Y : List Nat) (hX : ∀ i, X.getD i 0 < 256) : ∀ k j, j < k → Pl.hor (X.getD j 0) (ipL X Y k).2 = 0
  | 0, _, h => by omega
  | k + 1, j, h => by
    show Pl.hor _ (root _ _) = 0
    rw [hor_root (hX j) (hX k) (ipL_lt X Y k).2]
    rcases Nat.lt_or_ge j k with h1 | h1
    · rw [basis_zero X Y hX k j h1, Gf.zero_mul]
    · obtain rfl : j = k := by omega
      rw [Nat.xor_self, Gf.mul_zero]
theorem basis_ne (X Y : List Nat) (hX : ∀ i, X.getD i 0 < 256) {x : Nat} (hx : x < 256) : ∀ k, (∀ j, j < k → x ≠ X.getD j 0) → Pl.hor x (ipL X Y k).2 ≠ 0
  | 0, _ => by
    show Gf.mul 0 x ^^^ 1 ≠ 0
    rw [Gf.zero_mul]; decide
  | k + 1, h => by
    show Pl.hor _ (root _ _) ≠ 0
    rw [hor_root hx (hX k) (ipL_lt X Y k).2]
    exact Pl.mul_ne (Pl.hor_lt _ (ok_of (ipL_lt X Y k).2)) (Gf.xor_lt hx (hX k)) (basis_ne X Y hX hx k (fun j hj => h j (by omega))) (xor_ne (h k (by omega)))
theorem newton (X Y : List Nat) (hX : ∀ i, X.getD i 0 < 256) (hY : ∀ i, Y.getD i 0 < 256) : ∀ k, Dst X k → ∀ j, j < k → Pl.hor (X.getD j 0) (ipL X Y k).1 = Y.getD j 0
  | 0, _, _, h => by omega
  | k + 1, hd, j, h => by
    have hl := ipL_lt X Y k
    have hb := Pl.hor_lt (x := X.getD k 0) _ (ok_of hl.2)
    have hs := Pl.hor_lt (x := X.getD k 0) _ (ok_of hl.1)
    have hi : Gf.inv (Pl.hor (X.getD k 0) (ipL X Y k).2) < 256 := Gf.pw_lt _ 254
    have hg := Gf.xor_lt (hY k) hs
    have hf := Gf.mul_lt (Gf.inv (Pl.hor (X.getD k 0) (ipL X Y k).2)) hg
    have hne := basis_ne X Y hX (hX k) k (fun i hi => (hd i k hi (by omega)).symm)
    show Pl.hor _ (Pl.trim (plus _ (scal _ _))) = _
    rw [ring_ev_add (hX j) hl.1 (scal_lt hl.2), hor_scal (hX j) hf hl.2]
    rcases Nat.lt_or_ge j k with h1 | h1
    · rw [basis_zero X Y hX k j h1, Gf.zero_mul, Nat.xor_zero]
      exact newton X Y hX hY k (fun a b hab hbk => hd a b hab (by omega)) j h1
    · obtain rfl : j = k := by omega
      generalize Pl.hor (X.getD j 0) (ipL X Y j).2 = B at *
      generalize Pl.hor (X.getD j 0) (ipL X Y j).1 = S at *
      generalize Y.getD j 0 = y at *
      rw [Gf.mul_comm hb hf, ← Gf.mul_assoc hg hi hb, Gf.mul_comm hi hb, Gf.mul_inv hb hne, Gf.mul_one hg, Nat.xor_comm y S, ← Nat.xor_assoc, Nat.xor_self, Nat.zero_xor]
theorem ipL_nf (X Y : List Nat) (k : Nat) : Pl.trim (ipL X Y k).1 = (ipL X Y k).1 := by
  cases k with
  | zero => rfl
  | succ k => exact Pl.trim_trim _
/-- a polynomial of a lower degree is what interpolation of its values gives -/
theorem unique_eq {P X Y : List Nat} {n : Nat} (hP : ∀ i, P.getD i 0 < 256) (hX : ∀ i, X.getD i 0 < 256) (hY : ∀ i, Y.getD i 0 < 256) (hd : Dst X n) (hv : ∀ i, i < n → Y.getD i 0 = Pl.hor (X.getD i 0) P) (hl : Pl.d1 P ≤ n) : (ipL X Y n).1 = Pl.trim P := by
  rw [← ipL_nf]
  refine same_values (n := n) (fun i => X.getD i 0) (ipL_lt X Y n).1 hP (Nat.le_trans (Pl.d1_le _) (ipL_len1 X Y n)) hl (fun i _ => hX i) hd (fun i hi => ?_)
  rw [newton X Y hX hY n hd i hi, hv i hi]
/-- a row of values -/
def rowV (f : Nat → Value) (n : Nat) : Array Value := ((List.range n).map f).toArray
theorem rowV_size (f : Nat → Value) (n : Nat) : (rowV f n).size = n := by simp [rowV]
theorem rowV_get (f : Nat → Value) (n i : Nat) (h : i < n) : (rowV f n)[i]? = some (f i) := by simp [rowV, h]
theorem rowV_set (f : Nat → Value) (n k : Nat) (v : Value) : (rowV f n).setIfInBounds k v = rowV (fun i => if i = k then v else f i) n := by
  apply Array.ext_getElem?
  intro i
  rw [Array.getElem?_setIfInBounds, rowV_size]
  by_cases hi : i < n
  · rw [rowV_get _ _ _ hi, rowV_get _ _ _ hi]
    by_cases hk : k = i
    · subst hk; rw [if_pos rfl, if_pos hi, if_pos rfl]
    · rw [if_neg hk, if_neg (fun e => hk e.symm)]
  · have e1 : (rowV f n)[i]? = none := by simp [rowV_size]; omega
    have e2 : (rowV (fun i => if i = k then v else f i) n)[i]? = none := by simp [rowV_size]; omega
    rw [e1, e2]
    by_cases hk : k = i
    · subst hk; rw [if_pos rfl, if_neg hi]
    · rw [if_neg hk]
theorem rowV_congr {f g : Nat → Value} {n : Nat} (h : ∀ i, i < n → f i = g i) : rowV f n = rowV g n := by
  unfold rowV
  congr 1
  apply List.map_congr_left
  intro i hi
  exact h i (List.mem_range.1 hi)
theorem zeroSeen (w : World) : (zeroValue 58).run Try.prog w = .ok (.agg (rowV (fun _ => .bool false) 256)) w := by kernel_rfl
/-- what distinct tells -/
def DsR (e : Ending) (X : List Nat) : Prop := ∃ v : Bool, e = .returned (.bool v) ∧ (v = true → Dst X X.length)
def seen (X : List Nat) (k x : Nat) : Bool := decide (∃ i, i < k ∧ X.getD i 0 = x)
theorem seen_next (X : List Nat) (k x : Nat) : seen X (k + 1) x = if x = X.getD k 0 then true else seen X k x := by
  unfold seen
  by_cases h : x = X.getD k 0
  · rw [if_pos h]; exact decide_eq_true ⟨k, by omega, h.symm⟩
  · rw [if_neg h]
    congr 1
    apply propext
    constructor
    · rintro ⟨i, hi, e⟩
      rcases Nat.lt_or_ge i k with h1 | h1
      · exact ⟨i, h1, e⟩
      · obtain rfl : i = k := by omega
        exact absurd e.symm h
    · rintro ⟨i, hi, e⟩; exact ⟨i, by omega, e⟩
structure DtR (w : World) (X : List Nat) (k : Nat) (wr : World) : Prop where
  row : Blk wr w.heap.size 58 (rowV (fun x => .bool (seen X k x)) 256)
  bel : Below w.heap.size w wr
  ds : Dst X k
theorem DtR.start (w : World) (X : List Nat) : DtR w X 0 (w.alloc (.cells (rowV (fun _ => .bool false) 256) 58)) :=
  ⟨by rw [rowV_congr (f := fun x => .bool (seen X 0 x)) (g := fun _ => .bool false) (fun i _ => by unfold seen; rw [decide_eq_false (by rintro ⟨i, hi, _⟩; omega)])]; exact Blk.new _ _ _, (Below.refl _ _).alloc (Nat.le_refl _) _, fun i j _ h => by omega⟩
theorem DtR.step {w wr : World} {X : List Nat} {k x : Nat} (R : DtR w X k wr) (hx : X.getD k 0 = x) (hs : seen X k x = false) : DtR w X (k + 1) (wr.setCell ⟨w.heap.size, x, none⟩ (.bool true)) := by
  refine ⟨?_, R.bel.setCell (Nat.le_refl _) _, fun i j hij hj => ?_⟩
  · have h := R.row.set_ x (.bool true)
    rw [rowV_set] at h
    rw [rowV_congr (g := fun i => if i = x then .bool true else .bool (seen X k i)) (fun i _ => by rw [seen_next, hx]; split <;> rfl)]
    exact h
  · rcases Nat.lt_or_ge j k with h1 | h1
    · exact R.ds i j hij h1
    · obtain rfl : j = k := by omega
      intro e
      unfold seen at hs
      exact absurd ⟨i, hij, by rw [e, hx]⟩ (of_decide_eq_false hs)
set_option maxRecDepth 100000 in
theorem distinct_any (a : Option Addr) (n c : Nat) (X : List Nat) (hn : n = X.length) (hX : ∀ i, X.getD i 0 < 256) (hbig : n ≤ 1000) (w : World) (h : Bytes w a X) :
    Calls Try.prog 26 #[.slice a n c] w fun e w' => DsR e X ∧ Below w.heap.size w w' := by
  have hz := zeroSeen
  have R0 := hidIt (DtR.start w X)
  have n2 := hidIt hn
  have x2 := hidIt hX
  have i2 := hidIt h
  clear hn hX h
  go_enter Try.func26, Try.ntmps26
  go_wp2_with (fail)
  clear hz
  generalize w.alloc (.cells (rowV (fun _ => .bool false) 256) 58) = w1 at *
  go_loopw [8, 5] (fun i _ wr => ∃ k : Nat, k ≤ n ∧ i = .int .i64 k ∧ Hid (DtR w X k wr)) (fun i _ _ => n - (intOf i).toNat)
  case atStart => exact ⟨0, by omega, rfl, R0⟩
  case round =>
    clear R0
    obtain ⟨k, hk, rfl, R⟩ := hrel
    by_cases hlt : k < n
    · obtain ⟨b, o, rfl, e1⟩ := (i2.out.below R.out.bel) k (by have := n2.out; omega)
      have xb := x2.out k
      obtain ⟨x, hx⟩ : ∃ x, Hid (X.getD k 0 = x) := ⟨_, rfl⟩
      rw [hx.out] at e1 xb
      have d := R.out.row.cell x
      rw [rowV_get _ _ _ xb] at d
      have fz := R.out.row.frozen x
      have t1 : (k : Int) < (n : Int) := by omega
      have t2 : (x : Int) < 256 := by omega
      obtain ⟨v, hv⟩ : ∃ v, Hid (seen X k x = v) := ⟨_, rfl⟩
      rw [hv.out] at d
      cases v with
      | false =>
        go_wp2_with (fail)
        go_roundw
        case rel => exact ⟨k + 1, by omega, by go_num, R.out.step hx.out hv.out⟩
        case measure => simp [intOf]; omega
      | true =>
        have hb := hidIt R.out.bel
        clear R
        go_wp2_with (fail)
        go_ret
        exact ⟨⟨false, rfl, fun h => by cases h⟩, hb.out⟩
    · have hk2 : k = n := by omega
      have t1 : ¬ (k : Int) < (n : Int) := by omega
      have hd : Hid (Dst X X.length) := by have h := R.out.ds; rw [hk2, n2.out] at h; exact h
      have hb := hidIt R.out.bel
      clear R hk2
      go_wp2_with (fail)
      go_ret
      exact ⟨⟨true, rfl, fun _ => hd.out⟩, hb.out⟩
end Go.Proofs.Ytcnjcfmgkkghjaa
