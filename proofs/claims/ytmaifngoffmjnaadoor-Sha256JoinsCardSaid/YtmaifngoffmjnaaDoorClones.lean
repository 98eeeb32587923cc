import Derived.Test.YtmaifngoffmjnaaDoorInverts
namespace Go.Proofs.YtmaifngoffmjnaaDoor
open Go.RowKit
theorem SR.grown {w w' : World} {g g' : Nat} {ys : List Nat} (h : SR w g ys) (hg : w.grownBy w' (some g')) (hne : g ≠ g') : SR w' g ys := h.far (hg.block g h.lt (fun e => hne (by injection e)))
theorem SR.below {w w' : World} {g : Nat} {ys : List Nat} (h : SR w g ys) (hb : Below w.heap.size w w') : SR w' g ys := h.far (hb.block g h.lt)
theorem RowB.blk {w : World} {a : Option Addr} {len cap : Nat} {bs : List Nat} (h : RowB w a len cap bs) (h0 : 0 < bs.length) : ∀ x, a = some x → x.block < w.heap.size := by
  obtain ⟨b, off, rfl, hc⟩ := h.bytes 0 h0
  intro x hx; cases hx; exact bytes_lt hc
theorem strs_two (w : World) (s t : ByteArray) : Strs (w.alloc (.cells #[.string s, .string t] 9)) (some ⟨w.heap.size, 0, none⟩) [s, t] := by
  intro i hi
  have h2 : i < 2 := hi
  refine ⟨_, 0, rfl, ?_⟩
  rw [cell_of_row _ _ _ _ _ _ (heap_alloc_new w _)]
  match i, h2 with
  | 0, _ | 1, _ => rfl
theorem Strs.drew {w : World} {a : Option Addr} {ss : List ByteArray} (h : Strs w a ss) : Strs w.drew a ss := h
theorem join2 (a : Option Addr) (xs ys : List Nat) (hx : ∀ x ∈ xs, x < 256) (hy : ∀ x ∈ ys, x < 256) (hbig : xs.length + ys.length ≤ 1000000) (w : World) (hL : Laid w) (h : Strs w a [str xs, str ys]) :
    Calls Tryd.prog 20 #[.slice a 2 2] w fun e w' => e = .returned (.string (str (Sh.sum (xs ++ ys)))) ∧ Below w.heap.size w w' := by
  have e : cat [str xs, str ys] = xs ++ ys := by simp [cat, ofStr_str xs hx, ofStr_str ys hy]
  have h1 := join_any a 2 [str xs, str ys] (by rw [e, List.length_append]; omega) (by simp) w hL h
  rw [e] at h1
  exact h1
/-- what the last statement of Sha256Clones needs -/
structure Cl (W0 w : World) (g1 g2 : Nat) (a0 a1 a2 : Option Addr) (xs ys zs : List Nat) : Prop where
  l : Laid w
  s1 : SR w g1 (xs ++ ys)
  s2 : SR w g2 (xs ++ zs)
  x : Bytes w a0 xs
  y : Bytes w a1 ys
  z : Bytes w a2 zs
  bel : Below W0.heap.size W0 w
theorem Cl.below {W0 w w' : World} {g1 g2 : Nat} {a0 a1 a2 : Option Addr} {xs ys zs : List Nat} (h : Cl W0 w g1 g2 a0 a1 a2 xs ys zs) (hb : Below w.heap.size w w') : Cl W0 w' g1 g2 a0 a1 a2 xs ys zs :=
  ⟨h.l.below hb h.l.two, h.s1.below hb, h.s2.below hb, h.x.below hb, h.y.below hb, h.z.below hb, below_then h.bel hb⟩
def ClS (W0 : World) (g1 g2 : Nat) (a0 a1 a2 : Option Addr) (c0 c1 c2 : Nat) (xs ys zs : List Nat) (sx sy sz : ByteArray) (w : World) : Prop :=
  Cl W0 w g1 g2 a0 a1 a2 xs ys zs ∧ (convert 22 9 (.slice a0 xs.length c0)).run Tryd.prog w = .ok (.string sx) w ∧ (convert 22 9 (.slice a1 ys.length c1)).run Tryd.prog w = .ok (.string sy) w ∧ (convert 22 9 (.slice a2 zs.length c2)).run Tryd.prog w = .ok (.string sz) w
theorem Cl.all {W0 w : World} {g1 g2 : Nat} {a0 a1 a2 : Option Addr} {xs ys zs : List Nat} (h : Cl W0 w g1 g2 a0 a1 a2 xs ys zs) (c0 c1 c2 : Nat) {sx sy sz : ByteArray} (e0 : Hid (str xs = sx)) (e1 : Hid (str ys = sy)) (e2 : Hid (str zs = sz)) : ClS W0 g1 g2 a0 a1 a2 c0 c1 c2 xs ys zs sx sy sz w :=
  ⟨h, by rw [← e0.out]; exact conv_str w a0 _ c0 xs rfl h.x, by rw [← e1.out]; exact conv_str w a1 _ c1 ys rfl h.y, by rw [← e2.out]; exact conv_str w a2 _ c2 zs rfl h.z⟩
theorem Cl.alloc {W0 w : World} {g1 g2 : Nat} {a0 a1 a2 : Option Addr} {xs ys zs : List Nat} (h : Cl W0 w g1 g2 a0 a1 a2 xs ys zs) (o : Obj) : Cl W0 (w.alloc o) g1 g2 a0 a1 a2 xs ys zs := h.below ((Below.refl _ _).alloc (Nat.le_refl _) _)
theorem Cl.drewN {W0 w : World} {g1 g2 : Nat} {a0 a1 a2 : Option Addr} {xs ys zs : List Nat} (h : Cl W0 w g1 g2 a0 a1 a2 xs ys zs) (n : Nat) : Cl W0 (w.drewN n) g1 g2 a0 a1 a2 xs ys zs := h.below (below_drewN (Below.refl _ _) n)
theorem Cl.drew {W0 w : World} {g1 g2 : Nat} {a0 a1 a2 : Option Addr} {xs ys zs : List Nat} (h : Cl W0 w g1 g2 a0 a1 a2 xs ys zs) : Cl W0 w.drew g1 g2 a0 a1 a2 xs ys zs := h.drewN 1
theorem cl_sum1 {W0 w : World} {g1 g2 : Nat} {a0 a1 a2 : Option Addr} {xs ys zs : List Nat} (h : Cl W0 w g1 g2 a0 a1 a2 xs ys zs) (b : xs.length + ys.length ≤ 1000000) (s : ByteArray) (hs : Hid (str (Sh.sum (xs ++ ys)) = s)) :
    Calls Tryd.prog 17 #[.pointer (some ⟨g1, 0, none⟩)] w fun e w' => e = .returned (.string s) ∧ Below w.heap.size w w' ∧ Cl W0 w' g1 g2 a0 a1 a2 xs ys zs := by
  rw [← hs.out]
  exact (smSum_any g1 (xs ++ ys) (by rw [List.length_append]; omega) w h.l h.s1).mono fun e w' ⟨h1, h2⟩ => ⟨h1, h2, h.below h2⟩
theorem cl_sum2 {W0 w : World} {g1 g2 : Nat} {a0 a1 a2 : Option Addr} {xs ys zs : List Nat} (h : Cl W0 w g1 g2 a0 a1 a2 xs ys zs) (b : xs.length + zs.length ≤ 1000000) (s : ByteArray) (hs : Hid (str (Sh.sum (xs ++ zs)) = s)) :
    Calls Tryd.prog 17 #[.pointer (some ⟨g2, 0, none⟩)] w fun e w' => e = .returned (.string s) ∧ Below w.heap.size w w' ∧ Cl W0 w' g1 g2 a0 a1 a2 xs ys zs := by
  rw [← hs.out]
  exact (smSum_any g2 (xs ++ zs) (by rw [List.length_append]; omega) w h.l h.s2).mono fun e w' ⟨h1, h2⟩ => ⟨h1, h2, h.below h2⟩
theorem cl_join {W0 w : World} {g1 g2 : Nat} {a0 a1 a2 : Option Addr} {xs ys zs : List Nat} (h : Cl W0 w g1 g2 a0 a1 a2 xs ys zs) (a : Option Addr) (us vs : List Nat) (hu : ∀ x ∈ us, x < 256) (hv : ∀ x ∈ vs, x < 256) (b : us.length + vs.length ≤ 1000000) (s s1 s2 : ByteArray) (hs : Hid (str (Sh.sum (us ++ vs)) = s)) (h1 : Hid (str us = s1)) (h2 : Hid (str vs = s2)) (hst : Strs w a [s1, s2]) :
    Calls Tryd.prog 20 #[.slice a 2 2] w fun e w' => e = .returned (.string s) ∧ Below w.heap.size w w' ∧ Cl W0 w' g1 g2 a0 a1 a2 xs ys zs := by
  rw [← hs.out]
  rw [← h1.out, ← h2.out] at hst
  exact (join2 a us vs hu hv b w h.l hst).mono fun e w' ⟨h1, h2⟩ => ⟨h1, h2, h.below h2⟩
set_option maxRecDepth 100000 in
set_option maxHeartbeats 4000000 in
theorem clones_walk (a0 a1 a2 : Option Addr) (len0 cap0 len1 cap1 len2 cap2 : Nat) (xs ys zs : List Nat) (w : World) (hL : Laid w) (h0 : RowB w a0 len0 cap0 xs) (h1 : RowB w a1 len1 cap1 ys) (h2 : RowB w a2 len2 cap2 zs) :
    Calls Tryd.prog 6 #[.slice a0 len0 cap0, .slice a1 len1 cap1, .slice a2 len2 cap2] w fun e w' => e = .returned (.bool true) ∧ Below w.heap.size w w' := by
  obtain rfl := h0.len
  obtain rfl := h1.len
  obtain rfl := h2.len
  by_cases hbig : 500 < xs.length ∨ 500 < ys.length ∨ 500 < zs.length
  · go_enter Tryd.func6, Tryd.ntmps6
    go_wp2_with (fail)
    refine (awake_any _ hL).mono ?_
    rintro e w1 ⟨rfl, hb1⟩
    have L1 := hL.below hb1 hL.two
    go_wp2_with (fail)
    all_goals first
      | (refine (awake_any _ L1).mono ?_; rintro e w2 ⟨rfl, hb2⟩; go_wp2_with (fail); go_ret; exact ⟨rfl, below_then hb1 hb2⟩)
      | (exfalso; omega)
  · have b0 : xs.length ≤ 500 := by omega
    have b1 : ys.length ≤ 500 := by omega
    have b2 : zs.length ≤ 500 := by omega
    have t0 : ¬ (500 : Int) < (xs.length : Int) := by omega
    have t1 : ¬ (500 : Int) < (ys.length : Int) := by omega
    have t2 : ¬ (500 : Int) < (zs.length : Int) := by omega
    clear hbig
    go_enter Tryd.func6, Tryd.ntmps6
    go_wp2_with (fail)
    refine (awake_any _ hL).mono ?_
    rintro e w1 ⟨rfl, hb1⟩
    have L1 := hL.below hb1 hL.two
    go_wp2_with (fail)
    refine (new_any _ L1).mono ?_
    rintro e w2 ⟨rfl, hs2, hb2⟩
    have H2 := below_then hb1 hb2
    have L2 := hL.below H2 hL.two
    have q1 := hb1.size
    generalize hg1 : w1.heap.size = g1 at *
    have hg1' := hidIt hg1
    clear hg1
    go_wp2_with (fail)
    refine (smWrite_any g1 [] a0 cap0 xs h0.lt (by simp; omega) h0.lecap _ L2 hs2 (h0.bytes.below H2) (fun h x hx => by have := h0.blk h x hx; omega)).mono ?_
    rintro e w3 ⟨rfl, hs3, hg3⟩
    rw [List.nil_append] at hs3
    have H3 := SR.grown_new H2 hg3 q1
    have L3 := hL.below H3 hL.two
    go_wp2_with (fail)
    refine (clone_any g1 xs _ hs3).mono ?_
    rintro e w4 ⟨rfl, hs4, hb4⟩
    have H4 := below_then H3 hb4
    have L4 := hL.below H4 hL.two
    have hs4' := hs3.below hb4
    have q3 := H3.size
    have q4 := hs3.lt
    generalize hg2 : w3.heap.size = g2 at *
    have hg2' := hidIt hg2
    clear hg2
    go_wp2_with (fail)
    refine (smWrite_any g1 xs a1 cap1 ys h1.lt (by omega) h1.lecap _ L4 hs4' (h1.bytes.below H4) (fun h x hx => by have := h1.blk h x hx; omega)).mono ?_
    rintro e w5 ⟨rfl, hs5, hg5⟩
    have H5 := SR.grown_new H4 hg5 q1
    have L5 := hL.below H5 hL.two
    have hs5' := hs4.grown hg5 (by omega)
    go_wp2_with (fail)
    refine (smWrite_any g2 xs a2 cap2 zs h2.lt (by omega) h2.lecap _ L5 hs5' (h2.bytes.below H5) (fun h x hx => by have := h2.blk h x hx; omega)).mono ?_
    rintro e w6 ⟨rfl, hs6, hg6⟩
    have H6 := SR.grown_new H5 hg6 (by omega)
    have L6 := hL.below H6 hL.two
    have hs6' := hs5.grown hg6 (by omega)
    have hCl : Cl w w6 g1 g2 a0 a1 a2 xs ys zs := ⟨L6, hs6', hs6, h0.bytes.below H6, h1.bytes.below H6, h2.bytes.below H6, H6⟩
    obtain ⟨sx, ex⟩ : ∃ sx, Hid (str xs = sx) := ⟨_, rfl⟩
    obtain ⟨sy, ey⟩ : ∃ sx, Hid (str ys = sx) := ⟨_, rfl⟩
    obtain ⟨sz, ez⟩ : ∃ sx, Hid (str zs = sx) := ⟨_, rfl⟩
    have hAll := hidIt (hCl.all cap0 cap1 cap2 ex ey ez)
    have hx0 := h0.lt
    have hy0 := h1.lt
    have hz0 := h2.lt
    clear h0 h1 h2 L1 L2 L3 L4 L5 L6 hs2 hs3 hs4 hs5 hs4' hs5' hs6 hs6' hCl hg3 hg5 hg6 hb1 hb2 hb4 H2 H3 H4 H5 t0 t1 t2
    go_wp2_with (fail)
    obtain ⟨s1, e1⟩ : ∃ s, Hid (str (Sh.sum (xs ++ ys)) = s) := ⟨_, rfl⟩
    obtain ⟨s2, e2⟩ : ∃ s, Hid (str (Sh.sum (xs ++ zs)) = s) := ⟨_, rfl⟩
    have hc6 := hAll.out.1
    have v1 : (s1.toList == s1.toList) = true := by simp
    have v2 : (s2.toList == s2.toList) = true := by simp
    have m1 : xs.length + ys.length ≤ 1000000 := by omega
    have m2 : xs.length + zs.length ≤ 1000000 := by omega
    have hz6 := H6.size
    go_region_held3 (fun w' => Cl w w' g1 g2 a0 a1 a2 xs ys zs ∧ (convert 22 9 (.slice a0 xs.length cap0)).run Tryd.prog w' = .ok (.string sx) w' ∧ (convert 22 9 (.slice a1 ys.length cap1)).run Tryd.prog w' = .ok (.string sy) w' ∧ (convert 22 9 (.slice a2 zs.length cap2)).run Tryd.prog w' = .ok (.string sz) w')
      (first
        | exact Cl.all (by assumption) cap0 cap1 cap2 ex ey ez
        | (go_split_ands; exact Cl.all (by assumption) cap0 cap1 cap2 ex ey ez)
        | (go_split_ands; exact Cl.all (Cl.alloc (by assumption) _) cap0 cap1 cap2 ex ey ez)
        | exact Cl.all (Cl.alloc (by assumption) _) cap0 cap1 cap2 ex ey ez
        | exact Cl.all (Cl.drew (by assumption)) cap0 cap1 cap2 ex ey ez
        | exact Cl.all (Cl.drew (Cl.alloc (by assumption) _)) cap0 cap1 cap2 ex ey ez
        | exact Cl.all (Cl.alloc (Cl.drew (by assumption)) _) cap0 cap1 cap2 ex ey ez)
      (first
        | (go_at_call 17; go_split_ands; refine (cl_sum1 (xs := xs) (ys := ys) (zs := zs) (g2 := g2) (a0 := a0) (a1 := a1) (a2 := a2) (by assumption) m1 s1 e1).mono ?_; rintro e w7 ⟨rfl, hb7, hc7⟩)
        | (go_at_call 17; go_split_ands; refine (cl_sum2 (xs := xs) (ys := ys) (zs := zs) (g1 := g1) (a0 := a0) (a1 := a1) (a2 := a2) (by assumption) m2 s2 e2).mono ?_; rintro e w9 ⟨rfl, hb9, hc9⟩)
        | (go_at_call 20; go_split_ands; refine (cl_join (by assumption) _ xs ys hx0 hy0 m1 s1 sx sy e1 ex ey (by first | exact strs_two _ _ _ | exact (strs_two _ _ _).below (by assumption) | exact (Strs.drew (strs_two _ _ _)).below (by assumption))).mono ?_; rintro e w8 ⟨rfl, hb8, hc8⟩)
        | (go_at_call 20; go_split_ands; refine (cl_join (by assumption) _ xs zs hx0 hz0 m2 s2 sx sz e2 ex ez (by first | exact strs_two _ _ _ | exact (strs_two _ _ _).below (by assumption) | exact (Strs.drew (strs_two _ _ _)).below (by assumption))).mono ?_; rintro e w10 ⟨rfl, hb10, hc10⟩))
    all_goals
      go_wp2_with (fail)
      go_ret
      exact ⟨rfl, hc10.bel⟩
end Go.Proofs.YtmaifngoffmjnaaDoor
