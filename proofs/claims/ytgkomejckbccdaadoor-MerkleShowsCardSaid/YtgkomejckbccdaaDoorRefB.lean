import Derived.Test.YtgkomejckbccdaaDoorRefA
import Derived.Test.YtgkomejckbccdaaDoorPath0
namespace Go.Proofs.YtgkomejckbccdaaDoor
open Go.RowKit
theorem empty_own (w : World) : (w.alloc (.cells #[] 9)).ownsRow w.heap.size 9 1 (.slice (some ⟨w.heap.size, 0, none⟩) 0 0) 0 (svals []) := World.ownsRow_made w #[] 0 (Nat.le_refl _) (by unfold maxLen; omega) rfl
set_option maxRecDepth 100000 in
theorem refpath_rec (q : Nat) : ∀ (ss P : List ByteArray) (i : Nat) (a : Option Addr) (n cap : Nat) (w : World), Hid (Mk.pathL ss i = P) → n ≤ q → 1 ≤ n → i < n → n ≤ 1000000000 → Sr ss → Laid w → Hid (RdS w a n cap ss) →
    Calls Tryd.prog 62 #[.slice a n cap, .int .i64 (i : Int)] w fun e w' => (∃ v, e = .returned v ∧ w'.ownsRow w.heap.size 9 1 v P.length (svals P) ∧ P.length < n) ∧ Below w.heap.size w w' := by
  induction q with
  | zero => intro ss P i a n cap w _ h1 h2; omega
  | succ q ih =>
    intro ss P i a n cap w hP hq h1 hi hbig hS hL hR
    by_cases hn1 : n = 1
    · subst hn1
      have hnil : P = [] := by rw [← hP.out, Mk.pathL_one _ (by have := hR.out.len; omega)]
      subst hnil
      have hb1 : Hid (Below w.heap.size w (w.alloc (.cells #[] 9))) := (Below.refl _ _).alloc (Nat.le_refl _) _
      have ho := hidIt (empty_own w)
      clear ih hR
      go_enter Tryd.func62, Tryd.ntmps62
      go_wp2_with (fail)
      go_ret
      exact ⟨⟨_, rfl, ho.out, by decide⟩, hb1.out⟩
    · obtain ⟨k, hk⟩ : ∃ k, Hid (Mk.spl n = k) := ⟨_, rfl⟩
      obtain ⟨m, hm⟩ : ∃ m, Hid (n - k = m) := ⟨_, rfl⟩
      obtain ⟨c, hc⟩ : ∃ c, Hid (cap - k = c) := ⟨_, rfl⟩
      obtain ⟨a2, ha2⟩ : ∃ a2, Hid ((if cap = k then a else a.map fun x => x.add k) = a2) := ⟨_, rfl⟩
      obtain ⟨x, hx⟩ : ∃ x, Hid (Mk.root (ss.take k) = x) := ⟨_, rfl⟩
      obtain ⟨y, hy⟩ : ∃ y, Hid (Mk.root (ss.drop k) = y) := ⟨_, rfl⟩
      have h2 : 2 ≤ n := by omega
      have hln : Hid (n = ss.length) := hR.out.len
      have t1 : ((n : Int) == 1) = false := by simp; omega
      have hkl : Hid (k < n) := by show _ < _; rw [← hk.out]; exact Mk.spl_lt h2
      have hkp : Hid (0 < k) := by show _ < _; rw [← hk.out]; exact Mk.spl_pos n
      have sl1 := fun W => sliceSH a n cap k (by have := hkl.out; have := hR.out.cap; omega) W
      have sl2 := fun W => sliceSL a n cap k (by have := hkl.out; omega) W
      rw [ha2.out, hm.out, hc.out] at sl2
      have hR1 : Hid (RdS w a k cap (ss.take k)) := hR.out.take (by have := hkl.out; omega)
      have hR2 : Hid (RdS w a2 m c (ss.drop k)) := hR.out.drop hm.out hc.out ha2.out
      have hB0 := Below.refl w.heap.size w
      have hnb : Hid (n ≤ 1000000000) := hbig
      by_cases his : i < k
      · obtain ⟨Q, hQ⟩ : ∃ Q, Hid (Mk.pathL (ss.take k) i = Q) := ⟨_, rfl⟩
        have hPQ : Hid (P = Q ++ [y]) := by show _ = _; rw [← hP.out, Mk.pathL_left (by rw [← hln.out]; exact h2) (by rw [← hln.out, hk.out]; exact his), ← hln.out, hk.out, hQ.out, hy.out]
        have d1 : Hid (∀ W, Below w.heap.size w W → Calls Tryd.prog 62 #[.slice a k cap, .int .i64 (i : Int)] W fun e w' => (∃ v, e = .returned v ∧ w'.ownsRow W.heap.size 9 1 v Q.length (svals Q) ∧ Q.length < k) ∧ Below W.heap.size W w') := fun W hW =>
          ih (ss.take k) Q i a k cap W hQ (by have := hkl.out; omega) hkp.out his (by have := hkl.out; omega) (hS.take k) (hL.below hW hL.two) (hR1.out.below hW)
        have d2 : Hid (∀ W, Below w.heap.size w W → Calls Tryd.prog 23 #[.slice a2 m c] W fun e w' => e = .returned (.string y) ∧ Below W.heap.size W w') := fun W hW =>
          refroot_rec m (ss.drop k) y a2 m c W hy (Nat.le_refl _) (by have := hm.out; omega) (hS.drop k) (hL.below hW hL.two) (hR2.out.below hW)
        have t2 : (i : Int) < (k : Int) := by omega
        clear ih hS hR hR1 hR2 hP hQ hx hy hm hc ha2 hln hn1 hL
        go_enter Tryd.func62, Tryd.ntmps62
        go_wp2_with (fail)
        refine (refsplitz_any n k hk.out h2 (by omega) _).mono ?_
        rintro e w1 ⟨rfl, rfl⟩
        go_wp2_with (fail)
        go_region_held3 (fun W => Below w.heap.size w W)
          (first | assumption | exact Below.drew (by assumption) | exact below_then (by assumption) (by assumption) | exact below_then (by assumption) ((Below.refl _ _).alloc (Nat.le_refl _) _) | exact Below.trans (by assumption) hb9)
          (first
            | (go_at_call 62; (with_reducible refine Calls.mono (d1.out _ ?_) ?_); (focus assumption); rintro e w7 ⟨⟨v, rfl, hown, hlen⟩, hb7⟩)
            | (go_at_call 23; (with_reducible refine Calls.mono (d2.out _ ?_) ?_); (focus assumption); rintro e w8 ⟨rfl, hb8⟩)
            | (refine step_snoc_str _ rfl _ _ rfl _ v Q.length Q rfl (own_belowS hown (below_then hb8 ((Below.refl _ _).alloc (Nat.le_refl _) _))) w8.heap.size y rfl (str_new _ _) (by have := hkl.out; have := hnb.out; omega) (Nat.le_trans hb7.size (Nat.le_trans hb8.size (by simp))) ?_; intro v9 w9 hown9 hb9))
        have hB9 : Hid (Below w.heap.size w w9) := by show Below _ _ _; assumption
        have hlen' := hidIt hlen
        have hown' : Hid (w9.ownsRow w.heap.size 9 1 v9 (Q.length + 1) (svals (Q ++ [y]))) := hown9
        clear hown hown9 hb9 hb8 hb7 hlen
        go_wp2
        go_ret
        exact ⟨⟨v9, rfl, by rw [hPQ.out, List.length_append]; exact hown'.out, by rw [hPQ.out, List.length_append]; have := hlen'.out; have := hkl.out; show _ + 1 < _; omega⟩, hB9.out⟩
      · obtain ⟨j, hj⟩ : ∃ j, Hid (i - k = j) := ⟨_, rfl⟩
        obtain ⟨Q, hQ⟩ : ∃ Q, Hid (Mk.pathL (ss.drop k) j = Q) := ⟨_, rfl⟩
        have s1 : (i : Int) - (k : Int) = (j : Int) := by have := hj.out; omega
        have s2 : IntKind.i64.wrap (j : Int) = (j : Int) := by have := hj.out; exact IntWalk.i64_in _ (by omega)
        have hPQ : Hid (P = Q ++ [x]) := by show _ = _; rw [← hP.out, Mk.pathL_right (by rw [← hln.out]; exact h2) (by rw [← hln.out, hk.out]; exact his), ← hln.out, hk.out, hj.out, hQ.out, hx.out]
        have d1 : Hid (∀ W, Below w.heap.size w W → Calls Tryd.prog 62 #[.slice a2 m c, .int .i64 (j : Int)] W fun e w' => (∃ v, e = .returned v ∧ w'.ownsRow W.heap.size 9 1 v Q.length (svals Q) ∧ Q.length < m) ∧ Below W.heap.size W w') := fun W hW =>
          ih (ss.drop k) Q j a2 m c W hQ (by have := hkp.out; have := hm.out; omega) (by have := hkl.out; have := hm.out; omega) (by have := hj.out; have := hm.out; omega) (by have := hm.out; omega) (hS.drop k) (hL.below hW hL.two) (hR2.out.below hW)
        have d2 : Hid (∀ W, Below w.heap.size w W → Calls Tryd.prog 23 #[.slice a k cap] W fun e w' => e = .returned (.string x) ∧ Below W.heap.size W w') := fun W hW =>
          refroot_rec k (ss.take k) x a k cap W hx (Nat.le_refl _) (by have := hkl.out; omega) (hS.take k) (hL.below hW hL.two) (hR1.out.below hW)
        have t2 : ¬ (i : Int) < (k : Int) := by omega
        have hmn : Hid (m < n) := by show _ < _; have := hm.out; have := hkp.out; omega
        clear ih hS hR hR1 hR2 hP hQ hx hy hm hc ha2 hln hn1 hL hj
        go_enter Tryd.func62, Tryd.ntmps62
        go_wp2_with (fail)
        refine (refsplitz_any n k hk.out h2 (by omega) _).mono ?_
        rintro e w1 ⟨rfl, rfl⟩
        go_wp2_with (fail)
        go_region_held3 (fun W => Below w.heap.size w W)
          (first | assumption | exact Below.drew (by assumption) | exact below_then (by assumption) (by assumption) | exact below_then (by assumption) ((Below.refl _ _).alloc (Nat.le_refl _) _) | exact Below.trans (by assumption) hb9)
          (first
            | (go_at_call 62; (with_reducible refine Calls.mono (d1.out _ ?_) ?_); (focus assumption); rintro e w7 ⟨⟨v, rfl, hown, hlen⟩, hb7⟩)
            | (go_at_call 23; (with_reducible refine Calls.mono (d2.out _ ?_) ?_); (focus assumption); rintro e w8 ⟨rfl, hb8⟩)
            | (refine step_snoc_str _ rfl _ _ rfl _ v Q.length Q rfl (own_belowS hown (below_then hb8 ((Below.refl _ _).alloc (Nat.le_refl _) _))) w8.heap.size x rfl (str_new _ _) (by have := hmn.out; have := hnb.out; omega) (Nat.le_trans hb7.size (Nat.le_trans hb8.size (by simp))) ?_; intro v9 w9 hown9 hb9))
        have hB9 : Hid (Below w.heap.size w w9) := by show Below _ _ _; assumption
        have hlen' := hidIt hlen
        have hown' : Hid (w9.ownsRow w.heap.size 9 1 v9 (Q.length + 1) (svals (Q ++ [x]))) := hown9
        clear hown hown9 hb9 hb8 hb7 hlen
        go_wp2
        go_ret
        exact ⟨⟨v9, rfl, by rw [hPQ.out, List.length_append]; exact hown'.out, by rw [hPQ.out, List.length_append]; have := hlen'.out; have := hmn.out; show _ + 1 < _; omega⟩, hB9.out⟩
theorem refpath_bad (a : Option Addr) (n cap : Nat) (i : Int) (hi : i < 0 ∨ (n : Int) ≤ i) (w : World) :
    Calls Tryd.prog 25 #[.slice a n cap, .int .i64 i] w fun e w' => e = .returned (.tuple #[.slice none 0 0, .int .i64 1]) ∧ Below w.heap.size w w' := by
  by_cases h0 : i < 0
  · go_enter Tryd.func25, Tryd.ntmps25
    go_wp2_with (fail)
    go_ret2
    exact ⟨rfl, Below.refl _ _⟩
  · have h1 : (n : Int) ≤ i := by omega
    clear hi
    go_enter Tryd.func25, Tryd.ntmps25
    go_wp2_with (fail)
    go_ret2
    exact ⟨rfl, Below.refl _ _⟩
theorem refpath_good (a : Option Addr) (n cap i : Nat) (ss P : List ByteArray) (hP : Hid (Mk.pathL ss i = P)) (hi : i < n) (hS : Sr ss) (hbig : n ≤ 1000000000) (w : World) (hL : Laid w) (hR : Hid (RdS w a n cap ss)) :
    Calls Tryd.prog 25 #[.slice a n cap, .int .i64 (i : Int)] w fun e w' => (∃ v, e = .returned (.tuple #[v, .int .i64 0]) ∧ w'.ownsRow w.heap.size 9 1 v P.length (svals P)) ∧ Below w.heap.size w w' := by
  have h0 : ¬ (i : Int) < 0 := by omega
  have h1 : ¬ (n : Int) ≤ (i : Int) := by omega
  go_enter Tryd.func25, Tryd.ntmps25
  go_wp2_with (fail)
  refine (refpath_rec n ss P i a n cap _ hP (Nat.le_refl _) (by omega) hi hbig hS hL hR).mono ?_
  rintro e w1 ⟨⟨v, rfl, hown, _⟩, hb1⟩
  have ho := hidIt hown
  have hb := hidIt hb1
  clear hown hb1
  go_wp2_with (fail)
  go_ret2
  exact ⟨⟨v, rfl, ho.out⟩, hb.out⟩
end Go.Proofs.YtgkomejckbccdaaDoor
