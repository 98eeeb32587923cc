import Derived.Test.YtgkomejckbccdaaDoorRefC
namespace Go.Proofs.YtgkomejckbccdaaDoor
open Go.RowKit
/-- the string of a node -/
def nstr (x y : ByteArray) : ByteArray := (mark1 ++ x) ++ y
theorem ofStr_nstr (x y : ByteArray) : ofStr (nstr x y) = 1 :: (ofStr x ++ ofStr y) := by
  have h1 : ofStr mark1 = [1] := rfl
  rw [nstr, ofStr_add, ofStr_add, h1]; simp
theorem nstr_hash (x y : ByteArray) : str (Sh.sum (ofStr (nstr x y))) = Mk.node x y := by rw [ofStr_nstr]; rfl
theorem nstr_size (x y : ByteArray) : (nstr x y).size = 1 + (x.size + y.size) := by
  rw [← ofStr_len, ofStr_nstr, List.length_cons, List.length_append, ofStr_len, ofStr_len]; omega
theorem nstr_inj {x y x' y' : ByteArray} (hs : x.size = x'.size) (h : nstr x y = nstr x' y') : x = x' ∧ y = y' := by
  have h1 : ofStr (nstr x y) = ofStr (nstr x' y') := by rw [h]
  rw [ofStr_nstr, ofStr_nstr] at h1
  exact Mk.cat_inj hs (List.cons.inj h1).2
theorem add_str (s t : ByteArray) (h : s.size + t.size ≤ 1000000) (W : World) : (Op.stringOp .add s t).run Tryd.prog W = .ok (.string (s ++ t)) W := run_string_add_sum W s t (by omega)
/-- two different strings with one sum -/
def coll (a b : ByteArray) : Bool := !(decide (a = b)) && decide (str (Sh.sum (ofStr a)) = str (Sh.sum (ofStr b)))
theorem join1_any (a : ByteArray) (v : ByteArray) (hv : Hid (str (Sh.sum (ofStr a)) = v)) (h : a.size ≤ 1000) (w : World) :
    Calls Tryd.prog 56 #[.slice (some ⟨w.heap.size, 0, none⟩) 1 1] (w.alloc (.cells #[.string a] 9)) fun e w' => e = .returned (.string v) ∧ Below w.heap.size w w' := by
  have hc : cat [a] = ofStr a := by simp [cat]
  have hb : Below w.heap.size w (w.alloc (.cells #[.string a] 9)) := (Below.refl _ _).alloc (Nat.le_refl _) _
  refine (refjoin_any (some ⟨w.heap.size, 0, none⟩) 1 [a] (by rw [hc, ofStr_len]; omega) (by show 1 ≤ _; decide) _ (strs_one w a)).mono ?_
  rintro e w1 ⟨rfl, hb1⟩
  rw [hc, hv.out]
  exact ⟨rfl, below_then hb hb1⟩
theorem collides_any (a b : ByteArray) (v : Bool) (hv : Hid (coll a b = v)) (h1 : a.size ≤ 1000) (h2 : b.size ≤ 1000) (w : World) :
    Calls Tryd.prog 49 #[.string a, .string b] w fun e w' => e = .returned (.bool v) ∧ Below w.heap.size w w' := by
  by_cases hab : a = b
  · subst hab
    have hv2 : v = false := by rw [← hv.out, coll]; simp
    subst hv2
    have q : (a.toList == a.toList) = true := by simp
    go_enter Tryd.func49, Tryd.ntmps49
    go_wp2_with (fail)
    go_ret
    exact ⟨rfl, Below.refl _ _⟩
  · have q : (a.toList == b.toList) = false := by rw [str_beq]; simp [hab]
    obtain ⟨x, hx⟩ : ∃ x, Hid (str (Sh.sum (ofStr a)) = x) := ⟨_, rfl⟩
    obtain ⟨y, hy⟩ : ∃ x, Hid (str (Sh.sum (ofStr b)) = x) := ⟨_, rfl⟩
    have hv2 : Hid ((x.toList == y.toList) = v) := by
      show _ = _
      rw [← hv.out, coll, str_beq, hx.out, hy.out]; simp [hab]
    clear hv hab
    go_enter Tryd.func49, Tryd.ntmps49
    go_wp2_with (fail)
    refine (join1_any a x hx h1 _).mono ?_
    rintro e w1 ⟨rfl, hb1⟩
    have B1 := hidIt hb1
    clear hb1
    go_wp2_with (fail)
    refine (join1_any b y hy h2 _).mono ?_
    rintro e w2 ⟨rfl, hb2⟩
    have B2 := hidIt (below_then B1.out hb2)
    clear hb2
    obtain ⟨b2, hb2⟩ : ∃ b, (x.toList == y.toList) = b := ⟨_, rfl⟩
    have hv3 : v = b2 := by rw [← hv2.out, hb2]
    subst hv3
    clear hv2
    go_wp2_with (fail)
    go_ret
    exact ⟨rfl, B2.out⟩
theorem coll_true {x y x' y' : ByteArray} (hne : nstr x y ≠ nstr x' y') (h : Mk.node x y = Mk.node x' y') : coll (nstr x y) (nstr x' y') = true := by
  rw [coll, nstr_hash, nstr_hash, h]; simp [hne]
end Go.Proofs.YtgkomejckbccdaaDoor
