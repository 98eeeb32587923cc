import Derived.Test.YtgkomejckbccdaaDoorPath0
namespace Go.Proofs.YtgkomejckbccdaaDoor
open Go.RowKit
/-- what a call of the function value answers, in every world behind w0 -/
def FnIsA (w0 : World) (B : Nat) (R : Nat → Nat → ByteArray) (N : Nat) : Prop := ∀ (f c : Nat) (W : World), Below w0.heap.size w0 W → 1 ≤ c → f + c ≤ N →
  Calls Tryd.prog 60 #[pt f c, .pointer (some ⟨B, 0, none⟩)] W fun e w' => e = .returned (.string (R f c)) ∧ Below W.heap.size W w'
set_option maxRecDepth 100000 in
theorem path_recA (w0 : World) (B N : Nat) (R : Nat → Nat → ByteArray) (hF : Hid (FnIsA w0 B R N)) (hN : N ≤ 1000000000) (q : Nat) : ∀ (f c i : Nat) (P : List ByteArray) (w : World), Hid (Mk.path R f c i = P) → c ≤ q → 1 ≤ c → i < c → f + c ≤ N → Hid (Below w0.heap.size w0 w) →
    Calls Tryd.prog 61 #[pt f c, .int .i64 (i : Int), .func (.func 60) #[] #[.pointer (some ⟨B, 0, none⟩)]] w fun e w' => (∃ v, e = .returned v ∧ w'.ownsRow w.heap.size 9 1 v P.length (svals P) ∧ P.length < c) ∧ Below w.heap.size w w' := by
  induction q with
  | zero => intro f c i P w _ h1 h2; omega
  | succ q ih =>
    intro f c i P w hP hq h1 hi hfc hw
    by_cases hc1 : c = 1
    · subst hc1
      have hnil : P = [] := by rw [← hP.out, Mk.path_one _ _ _ _ (by decide)]
      subst hnil
      have hb1 : Hid (Below w.heap.size w (w.alloc (.cells #[.int .i64 (f : Int), .int .i64 1] 72))) := (Below.refl _ _).alloc (Nat.le_refl _) _
      unfold pt
      clear ih hF
      go_enter Tryd.func61, Tryd.ntmps61
      go_wp2_with (fail)
      go_ret
      exact ⟨⟨_, rfl, ⟨rfl, .inl ⟨rfl, rfl⟩⟩, by decide⟩, hb1.out⟩
    · have h2 : 2 ≤ c := by omega
      obtain ⟨k, hk⟩ : ∃ k, Hid (Mk.spl c = k) := ⟨_, rfl⟩
      obtain ⟨g, hg⟩ : ∃ g, Hid (f + k = g) := ⟨_, rfl⟩
      obtain ⟨m, hm⟩ : ∃ m, Hid (c - k = m) := ⟨_, rfl⟩
      have hkl : Hid (k < c) := by show _ < _; rw [← hk.out]; exact Mk.spl_lt h2
      have hkp : Hid (0 < k) := by show _ < _; rw [← hk.out]; exact Mk.spl_pos c
      have hcb : Hid (c ≤ 1000000000) := by show _ ≤ _; omega
      obtain ⟨x, hx⟩ : ∃ x, Hid (R g m = x) := ⟨_, rfl⟩
      obtain ⟨y, hy⟩ : ∃ y, Hid (R f k = y) := ⟨_, rfl⟩
      have t0 : ¬ (c : Int) = 1 := by omega
      by_cases his : i < k
      · obtain ⟨Q, hQ⟩ : ∃ Q, Hid (Mk.path R f k i = Q) := ⟨_, rfl⟩
        have hPQ : Hid (P = Q ++ [x]) := by show _ = _; rw [← hP.out, Mk.path_left R f c i h2 (by rw [hk.out]; exact his), hk.out, hm.out, hg.out, hx.out, hQ.out]
        have d1 : Hid (∀ W, Below w.heap.size w W → Calls Tryd.prog 61 #[.agg #[.int .i64 (f : Int), .int .i64 (k : Int)], .int .i64 (i : Int), .func (.func 60) #[] #[.pointer (some ⟨B, 0, none⟩)]] W fun e w' => (∃ v, e = .returned v ∧ w'.ownsRow W.heap.size 9 1 v Q.length (svals Q) ∧ Q.length < k) ∧ Below W.heap.size W w') := fun W hW =>
          ih f k i Q W hQ (by have := hkl.out; omega) hkp.out his (by have := hkl.out; omega) (below_then hw.out hW)
        have d2 : Hid (∀ W, Below w.heap.size w W → Calls Tryd.prog 60 #[.agg #[.int .i64 (g : Int), .int .i64 (m : Int)], .pointer (some ⟨B, 0, none⟩)] W fun e w' => e = .returned (.string x) ∧ Below W.heap.size W w') := fun W hW =>
          hx.out ▸ hF.out g m W (below_then hw.out hW) (by have := hkl.out; have := hm.out; omega) (by have := hkl.out; have := hm.out; have := hg.out; omega)
        have d3 : Hid (∀ W, Calls Tryd.prog 83 #[.agg #[.int .i64 (f : Int), .int .i64 (c : Int)]] W fun e w' => e = .returned (.tuple #[.agg #[.int .i64 (f : Int), .int .i64 (k : Int)], .agg #[.int .i64 (g : Int), .int .i64 (m : Int)]]) ∧ Below W.heap.size W w') := fun W =>
          halves_any f c k g m hk hg hm h2 (by omega) (by omega) W
        have t1 : (i : Int) < (k : Int) := by omega
        have hbA : Hid (Below w.heap.size w (w.alloc (.cells #[.int .i64 (f : Int), .int .i64 (c : Int)] 72))) := (Below.refl _ _).alloc (Nat.le_refl _) _
        unfold pt
        clear ih hF hw hP hx hy hg hm hk hfc
        go_enter Tryd.func61, Tryd.ntmps61
        go_wp2_with (fail)
        refine (d3.out _).mono ?_
        rintro e w1 ⟨rfl, hb1⟩
        have H1 := hidIt (below_then hbA.out hb1)
        clear hb1
        go_wp2_with (fail)
        have H2 : Two2 w w1.heap.size f k g m _ := two2_made w w1 f k g m H1.out
        have e0 := H2.l0
        have e1 := H2.l1
        have e2 := H2.r0
        have e3 := H2.r1
        obtain ⟨w2, hw2⟩ : ∃ w2, Hid (((w1.alloc (.cells #[.int .i64 (f : Int), .int .i64 (k : Int)] 72)).alloc (.cells #[.int .i64 (g : Int), .int .i64 (m : Int)] 72)) = w2) := ⟨_, rfl⟩
        rw [hw2.out] at H2 e0 e1 e2 e3
        try rw [hw2.out]
        obtain ⟨L, hL⟩ : ∃ L, Hid (w1.heap.size = L) := ⟨_, rfl⟩
        rw [hL.out] at H2 e0 e1 e2 e3
        try rw [hL.out]
        have hLB : Hid (L + 1 < w2.heap.size) := bytes_lt e2
        have hwB : Hid (w.heap.size ≤ w2.heap.size) := H2.bel.size
        clear hw2 H1 hbA d3
        go_region_held3 (fun W' => Two2 w L f k g m W' ∧ W'.cell? ⟨L, 0, none⟩ = some (.int .i64 (f : Int)) ∧ W'.cell? ⟨L, 1, none⟩ = some (.int .i64 (k : Int)) ∧ W'.cell? ⟨L + 1, 0, none⟩ = some (.int .i64 (g : Int)) ∧ W'.cell? ⟨L + 1, 1, none⟩ = some (.int .i64 (m : Int)))
          (first
            | exact Two2.all (by assumption)
            | (go_split_ands; exact Two2.all (by assumption))
            | (go_split_ands; exact Two2.all (Two2.drew (by assumption)))
            | (go_split_ands; exact Two2.all (Two2.new (by assumption) _))
            | (go_split_ands; exact Two2.all (Two2.drew (Two2.new (by assumption) _)))
            | (go_split_ands; exact Two2.all (Two2.behind (by assumption) (by assumption)))
            | (go_split_ands; exact Two2.all (Two2.far (by assumption) hb9 hLB.out hwB.out)))
          (first
            | (go_at_call 61; (with_reducible refine Calls.mono (d1.out _ ?_) ?_); (focus (go_split_ands; exact Two2.bel (by assumption))); rintro e w7 ⟨⟨v, rfl, hown, hlen⟩, hb7⟩)
            | (go_at_call 60; (with_reducible refine Calls.mono (d2.out _ ?_) ?_); (focus (go_split_ands; exact Two2.bel (by assumption))); rintro e w8 ⟨rfl, hb8⟩)
            | (refine step_snoc_str _ rfl _ _ rfl _ v Q.length Q rfl (own_belowS hown (below_then hb8 ((Below.refl _ _).alloc (Nat.le_refl _) _))) w8.heap.size x rfl (str_new _ _) (by have := hkl.out; have := hcb.out; omega) (Nat.le_trans hb7.size (Nat.le_trans hb8.size (by simp))) ?_; intro v9 w9 hown9 hb9))
        go_split_ands
        have hS9 : Two2 w L f k g m w9 := by assumption
        have hbel := hidIt hS9.bel
        have hown' : Hid (w9.ownsRow w.heap.size 9 1 v9 (Q.length + 1) (svals (Q ++ [x]))) := own_mono hown9 hwB.out
        have hlen' := hidIt hlen
        clear hown hown9 hb9 hb8 hb7 hS9 hlen
        go_wp2
        go_ret
        exact ⟨⟨v9, rfl, by rw [hPQ.out, List.length_append]; exact hown'.out, by rw [hPQ.out, List.length_append]; have := hlen'.out; have := hkl.out; show _ + 1 < _; omega⟩, hbel.out⟩
      · obtain ⟨j, hj⟩ : ∃ j, Hid (i - k = j) := ⟨_, rfl⟩
        obtain ⟨Q, hQ⟩ : ∃ Q, Hid (Mk.path R g m j = Q) := ⟨_, rfl⟩
        have s1 : (i : Int) - (k : Int) = (j : Int) := by have := hj.out; omega
        have s2 : IntKind.i64.wrap (j : Int) = (j : Int) := by have := hj.out; exact IntWalk.i64_in _ (by omega)
        have hPQ : Hid (P = Q ++ [y]) := by show _ = _; rw [← hP.out, Mk.path_right R f c i h2 (by rw [hk.out]; exact his), hk.out, hm.out, hg.out, hj.out, hy.out, hQ.out]
        have d1 : Hid (∀ W, Below w.heap.size w W → Calls Tryd.prog 61 #[.agg #[.int .i64 (g : Int), .int .i64 (m : Int)], .int .i64 (j : Int), .func (.func 60) #[] #[.pointer (some ⟨B, 0, none⟩)]] W fun e w' => (∃ v, e = .returned v ∧ w'.ownsRow W.heap.size 9 1 v Q.length (svals Q) ∧ Q.length < m) ∧ Below W.heap.size W w') := fun W hW =>
          ih g m j Q W hQ (by have := hkl.out; have := hkp.out; have := hm.out; omega) (by have := hkl.out; have := hm.out; omega) (by have := hj.out; have := hm.out; omega) (by have := hkl.out; have := hm.out; have := hg.out; omega) (below_then hw.out hW)
        have d2 : Hid (∀ W, Below w.heap.size w W → Calls Tryd.prog 60 #[.agg #[.int .i64 (f : Int), .int .i64 (k : Int)], .pointer (some ⟨B, 0, none⟩)] W fun e w' => e = .returned (.string y) ∧ Below W.heap.size W w') := fun W hW =>
          hy.out ▸ hF.out f k W (below_then hw.out hW) hkp.out (by have := hkl.out; omega)
        have d3 : Hid (∀ W, Calls Tryd.prog 83 #[.agg #[.int .i64 (f : Int), .int .i64 (c : Int)]] W fun e w' => e = .returned (.tuple #[.agg #[.int .i64 (f : Int), .int .i64 (k : Int)], .agg #[.int .i64 (g : Int), .int .i64 (m : Int)]]) ∧ Below W.heap.size W w') := fun W =>
          halves_any f c k g m hk hg hm h2 (by omega) (by omega) W
        have t1 : ¬ (i : Int) < (k : Int) := by omega
        have hmk : Hid (m < c) := by show _ < _; have := hkp.out; have := hkl.out; have := hm.out; omega
        have hbA : Hid (Below w.heap.size w (w.alloc (.cells #[.int .i64 (f : Int), .int .i64 (c : Int)] 72))) := (Below.refl _ _).alloc (Nat.le_refl _) _
        unfold pt
        clear ih hF hw hP hx hy hg hm hk hfc hj
        go_enter Tryd.func61, Tryd.ntmps61
        go_wp2_with (fail)
        refine (d3.out _).mono ?_
        rintro e w1 ⟨rfl, hb1⟩
        have H1 := hidIt (below_then hbA.out hb1)
        clear hb1
        go_wp2_with (fail)
        have H2 : Two2 w w1.heap.size f k g m _ := two2_made w w1 f k g m H1.out
        have e0 := H2.l0
        have e1 := H2.l1
        have e2 := H2.r0
        have e3 := H2.r1
        obtain ⟨w2, hw2⟩ : ∃ w2, Hid (((w1.alloc (.cells #[.int .i64 (f : Int), .int .i64 (k : Int)] 72)).alloc (.cells #[.int .i64 (g : Int), .int .i64 (m : Int)] 72)) = w2) := ⟨_, rfl⟩
        rw [hw2.out] at H2 e0 e1 e2 e3
        try rw [hw2.out]
        obtain ⟨L, hL⟩ : ∃ L, Hid (w1.heap.size = L) := ⟨_, rfl⟩
        rw [hL.out] at H2 e0 e1 e2 e3
        try rw [hL.out]
        have hLB : Hid (L + 1 < w2.heap.size) := bytes_lt e2
        have hwB : Hid (w.heap.size ≤ w2.heap.size) := H2.bel.size
        clear hw2 H1 hbA d3
        go_region_held3 (fun W' => Two2 w L f k g m W' ∧ W'.cell? ⟨L, 0, none⟩ = some (.int .i64 (f : Int)) ∧ W'.cell? ⟨L, 1, none⟩ = some (.int .i64 (k : Int)) ∧ W'.cell? ⟨L + 1, 0, none⟩ = some (.int .i64 (g : Int)) ∧ W'.cell? ⟨L + 1, 1, none⟩ = some (.int .i64 (m : Int)))
          (first
            | exact Two2.all (by assumption)
            | (go_split_ands; exact Two2.all (by assumption))
            | (go_split_ands; exact Two2.all (Two2.drew (by assumption)))
            | (go_split_ands; exact Two2.all (Two2.new (by assumption) _))
            | (go_split_ands; exact Two2.all (Two2.drew (Two2.new (by assumption) _)))
            | (go_split_ands; exact Two2.all (Two2.behind (by assumption) (by assumption)))
            | (go_split_ands; exact Two2.all (Two2.far (by assumption) hb9 hLB.out hwB.out)))
          (first
            | (go_at_call 61; (with_reducible refine Calls.mono (d1.out _ ?_) ?_); (focus (go_split_ands; exact Two2.bel (by assumption))); rintro e w7 ⟨⟨v, rfl, hown, hlen⟩, hb7⟩)
            | (go_at_call 60; (with_reducible refine Calls.mono (d2.out _ ?_) ?_); (focus (go_split_ands; exact Two2.bel (by assumption))); rintro e w8 ⟨rfl, hb8⟩)
            | (refine step_snoc_str _ rfl _ _ rfl _ v Q.length Q rfl (own_belowS hown (below_then hb8 ((Below.refl _ _).alloc (Nat.le_refl _) _))) w8.heap.size y rfl (str_new _ _) (by have := hmk.out; have := hcb.out; omega) (Nat.le_trans hb7.size (Nat.le_trans hb8.size (by simp))) ?_; intro v9 w9 hown9 hb9))
        go_split_ands
        have hS9 : Two2 w L f k g m w9 := by assumption
        have hbel := hidIt hS9.bel
        have hown' : Hid (w9.ownsRow w.heap.size 9 1 v9 (Q.length + 1) (svals (Q ++ [y]))) := own_mono hown9 hwB.out
        have hlen' := hidIt hlen
        clear hown hown9 hb9 hb8 hb7 hS9 hlen
        go_wp2
        go_ret
        exact ⟨⟨v9, rfl, by rw [hPQ.out, List.length_append]; exact hown'.out, by rw [hPQ.out, List.length_append]; have := hlen'.out; have := hmk.out; show _ + 1 < _; omega⟩, hbel.out⟩
end Go.Proofs.YtgkomejckbccdaaDoor
