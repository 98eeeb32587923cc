import Derived.Test.YtgkomejckbccdaaDoorRefC
import Derived.Test.YtgkomejckbccdaaDoorCon
namespace Go.Proofs.YtgkomejckbccdaaDoor
open Go.RowKit
theorem both_bound64 {e : Bool} {old : ByteArray} {P : List ByteArray} (ho : old.size ≤ 64) (hP : Sr P) (l : Nat) : ∀ m n kn, (Mk.both e P old l m n kn).1.size ≤ 64 ∧ (Mk.both e P old l m n kn).2.1.size ≤ 64 := by
  have he : (ByteArray.empty).size ≤ 64 := by decide
  induction l with
  | zero => intro m n kn; unfold Mk.both; split <;> exact ⟨by assumption, by assumption⟩
  | succ l ih =>
    intro m n kn
    unfold Mk.both
    split
    · split
      · exact ⟨ho, ho⟩
      · split
        · exact ⟨getD_sr hP 0, getD_sr hP 0⟩
        · split
          · exact ⟨getD_sr hP l, getD_sr hP l⟩
          · exact ⟨he, he⟩
    · split
      · exact ⟨(ih _ _ _).1, by rw [Mk.node_size]; decide⟩
      · exact ⟨by rw [Mk.node_size]; decide, by rw [Mk.node_size]; decide⟩
set_option maxRecDepth 100000 in
theorem refboth_rec (a : Option Addr) (n0 cap : Nat) (P : List ByteArray) (x : ByteArray) (hP : Sr P) (hx : x.size ≤ 64) (hbig : n0 ≤ 1000000000) (l : Nat) : ∀ (m n : Nat) (kn : Bool) (r s : ByteArray) (ok : Bool) (w : World), Hid (Mk.both false P x l m n kn = (r, s, ok)) → 1 ≤ m → m ≤ n → n < 9223372036854775808 → l ≤ n0 → Laid w → Hid (RdS w a n0 cap P) →
    Calls Tryd.prog 72 #[.int .i64 (m : Int), .int .i64 (n : Int), .bool kn, .string x, .slice a l cap] w fun e w' => e = .returned (.tuple #[.string r, .string s, .bool ok]) ∧ Below w.heap.size w w' := by
  induction l with
  | zero =>
    intro m n kn r s ok w hr h1 hmn hn _ hL hR
    have hr2 := hr.out
    clear hr
    unfold Mk.both at hr2
    by_cases hm : m = n
    · subst hm
      cases kn with
      | true =>
        rw [if_pos ⟨rfl, rfl⟩] at hr2
        obtain ⟨rfl, h3⟩ := Prod.mk.inj hr2
        obtain ⟨rfl, rfl⟩ := Prod.mk.inj h3
        clear hr2 h3 hR
        go_enter Tryd.func72, Tryd.ntmps72
        go_wp2_with (fail)
        go_ret3
        exact ⟨rfl, Below.refl _ _⟩
      | false =>
        rw [if_neg (fun h => by cases h.2)] at hr2
        obtain ⟨rfl, h3⟩ := Prod.mk.inj hr2
        obtain ⟨rfl, rfl⟩ := Prod.mk.inj h3
        clear hr2 h3 hR
        go_enter Tryd.func72, Tryd.ntmps72
        go_wp2_with (fail)
        go_ret3
        exact ⟨rfl, Below.refl _ _⟩
    · rw [if_neg (fun h => hm h.1)] at hr2
      obtain ⟨rfl, h3⟩ := Prod.mk.inj hr2
      obtain ⟨rfl, rfl⟩ := Prod.mk.inj h3
      have t1 : ((m : Int) == (n : Int)) = false := by simp; omega
      clear hr2 h3 hR
      go_enter Tryd.func72, Tryd.ntmps72
      go_wp2_with (fail)
      go_ret3
      exact ⟨rfl, Below.refl _ _⟩
  | succ l ih =>
    intro m n kn r s ok w hr h1 hmn hn hl0 hL hR
    have hr2 := hr.out
    clear hr
    unfold Mk.both at hr2
    obtain ⟨q, hq⟩ : ∃ q, Hid (l + 1 = q) := ⟨_, rfl⟩
    have q0 : ((q : Int) == 0) = false := by have := hq.out; simp; omega
    rw [hq.out]
    obtain ⟨y, hy⟩ : ∃ y, Hid (P.getD l ByteArray.empty = y) := ⟨_, rfl⟩
    have yb : Hid (y.size ≤ 64) := by show _ ≤ _; rw [← hy.out]; exact getD_sr hP l
    have s1 : (q : Int) - 1 = (l : Int) := by have := hq.out; omega
    have s2 : IntKind.i64.wrap (l : Int) = (l : Int) := IntWalk.i64_in _ (by omega)
    have sl := fun W => sliceSH a q cap l (by have := hq.out; have := hR.out.cap; omega) W
    obtain ⟨b, o, rfl, hc⟩ := hR.out.cell (i := l) (by omega) hy.out
    have y0 : (0 : Int) ≤ (l : Int) := by omega
    have y1 : (l : Int) < (q : Int) := by have := hq.out; omega
    by_cases hm : m = n
    · subst hm
      rw [if_pos rfl] at hr2
      cases kn with
      | true =>
        rw [if_pos rfl] at hr2
        obtain ⟨rfl, h3⟩ := Prod.mk.inj hr2
        obtain ⟨rfl, rfl⟩ := Prod.mk.inj h3
        clear hr2 h3 hR ih
        go_enter Tryd.func72, Tryd.ntmps72
        go_wp2_with (fail)
        go_ret3
        exact ⟨rfl, Below.refl _ _⟩
      | false =>
        rw [if_neg (by decide)] at hr2
        by_cases hl1 : l = 0
        · have hy0 : P.getD 0 ByteArray.empty = y := by rw [← hy.out, hl1]
          have hc0 : w.cell? ⟨b, o, none⟩ = some (.string y) := by have h9 := hc; rw [hl1, Nat.add_zero] at h9; exact h9
          rw [if_pos hl1, hy0] at hr2
          obtain ⟨rfl, h3⟩ := Prod.mk.inj hr2
          obtain ⟨rfl, rfl⟩ := Prod.mk.inj h3
          have t3 : ((q : Int) != 1) = false := by have := hq.out; simp; omega
          have t4 : (0 : Int) < (q : Int) := by omega
          clear hr2 h3 hR ih hy hy0 hl1 hc s1 s2 sl
          go_enter Tryd.func72, Tryd.ntmps72
          go_wp2_with (fail)
          go_quiet (fail)
          go_wp2_with (fail)
          go_ret3
          exact ⟨rfl, below_drewN (Below.refl _ _) _⟩
        · rw [if_neg hl1, if_neg (by decide)] at hr2
          obtain ⟨rfl, h3⟩ := Prod.mk.inj hr2
          obtain ⟨rfl, rfl⟩ := Prod.mk.inj h3
          have t3 : ((q : Int) != 1) = true := by have := hq.out; simp; omega
          clear hr2 h3 hR ih hy
          go_enter Tryd.func72, Tryd.ntmps72
          go_wp2_with (fail)
          go_ret3
          exact ⟨rfl, Below.refl _ _⟩
    · rw [if_neg hm, hy.out] at hr2
      have t1 : ((m : Int) == (n : Int)) = false := by simp; omega
      have h2 : 2 ≤ n := by omega
      obtain ⟨k, hk⟩ : ∃ k, Hid (Mk.spl n = k) := ⟨_, rfl⟩
      rw [hk.out] at hr2
      have hkl : Hid (k < n) := by show _ < _; rw [← hk.out]; exact Mk.spl_lt h2
      have hkp : Hid (0 < k) := by show _ < _; rw [← hk.out]; exact Mk.spl_pos n
      by_cases his : m ≤ k
      · obtain ⟨⟨r1, r2, ok1⟩, hu⟩ : ∃ z, Hid (Mk.both false P x l m k kn = z) := ⟨_, rfl⟩
        rw [if_pos his, hu.out] at hr2
        obtain ⟨rfl, h3⟩ := Prod.mk.inj hr2
        obtain ⟨hrn, rfl⟩ := Prod.mk.inj h3
        have r2b : Hid (r2.size ≤ 64) := by
          have := (both_bound64 (e := false) hx hP l m k kn).2
          rw [hu.out] at this; exact this
        have d1 : Hid (∀ W, Below w.heap.size w W → Calls Tryd.prog 72 #[.int .i64 (m : Int), .int .i64 (k : Int), .bool kn, .string x, .slice (some ⟨b, o, none⟩) l cap] W fun e w' => e = .returned (.tuple #[.string r1, .string r2, .bool ok1]) ∧ Below W.heap.size W w') := fun W hW =>
          ih m k kn r1 r2 ok1 W hu h1 his (by have := hkl.out; omega) (by omega) (hL.below hW hL.two) (hR.out.below hW)
        have t2 : (m : Int) ≤ (k : Int) := by omega
        have hrn2 := hidIt hrn
        clear hr2 h3 hR ih hrn hu hy
        go_enter Tryd.func72, Tryd.ntmps72
        go_wp2_with (fail)
        go_quiet (fail)
        go_wp2_with (fail)
        refine (refsplitz_any n k hk.out h2 (by omega) _).mono ?_
        rintro e w1 ⟨rfl, hbs⟩
        subst hbs
        have hB1 := hidIt (below_drewN (Below.refl w.heap.size w) nq)
        go_wp2_with (fail)
        refine (d1.out _ hB1.out).mono ?_
        rintro e w1 ⟨rfl, hb1⟩
        have hb2 := hidIt (below_then hB1.out hb1)
        clear hb1
        go_wp2_with (fail)
        refine (refnodez_any r2 y s hrn2.out r2b.out yb.out _ (hL.below hb2.out hL.two)).mono ?_
        rintro e w2 ⟨rfl, hb3⟩
        go_wp2_with (fail)
        go_ret3
        exact ⟨rfl, below_then hb2.out hb3⟩
      · obtain ⟨j, hj⟩ : ∃ j, Hid (m - k = j) := ⟨_, rfl⟩
        obtain ⟨c, hc2⟩ : ∃ c, Hid (n - k = c) := ⟨_, rfl⟩
        obtain ⟨⟨r1, r2, ok1⟩, hu⟩ : ∃ z, Hid (Mk.both false P x l j c false = z) := ⟨_, rfl⟩
        rw [if_neg his, hj.out, hc2.out, hu.out] at hr2
        obtain ⟨hrm, h3⟩ := Prod.mk.inj hr2
        obtain ⟨hrn, rfl⟩ := Prod.mk.inj h3
        have s3 : (m : Int) - (k : Int) = (j : Int) := by have := hj.out; omega
        have s4 : (n : Int) - (k : Int) = (c : Int) := by have := hc2.out; have := hkl.out; omega
        have s5 : IntKind.i64.wrap (j : Int) = (j : Int) := by have := hj.out; exact IntWalk.i64_in _ (by omega)
        have s6 : IntKind.i64.wrap (c : Int) = (c : Int) := by have := hc2.out; exact IntWalk.i64_in _ (by omega)
        have rb : Hid (r1.size ≤ 64 ∧ r2.size ≤ 64) := by
          have := both_bound64 (e := false) hx hP l j c false
          rw [hu.out] at this; exact this
        have d1 : Hid (∀ W, Below w.heap.size w W → Calls Tryd.prog 72 #[.int .i64 (j : Int), .int .i64 (c : Int), .bool false, .string x, .slice (some ⟨b, o, none⟩) l cap] W fun e w' => e = .returned (.tuple #[.string r1, .string r2, .bool ok1]) ∧ Below W.heap.size W w') := fun W hW =>
          ih j c false r1 r2 ok1 W hu (by have := hj.out; omega) (by have := hj.out; have := hc2.out; omega) (by have := hc2.out; omega) (by omega) (hL.below hW hL.two) (hR.out.below hW)
        have t2 : ¬ (m : Int) ≤ (k : Int) := by omega
        have hrn2 := hidIt hrn
        have hrm2 := hidIt hrm
        clear hr2 h3 hR ih hrn hrm hu hy
        go_enter Tryd.func72, Tryd.ntmps72
        go_wp2_with (fail)
        go_quiet (fail)
        go_wp2_with (fail)
        refine (refsplitz_any n k hk.out h2 (by omega) _).mono ?_
        rintro e w1 ⟨rfl, hbs⟩
        subst hbs
        have hB1 := hidIt (below_drewN (Below.refl w.heap.size w) nq)
        go_wp2_with (fail)
        refine (d1.out _ hB1.out).mono ?_
        rintro e w1 ⟨rfl, hb1⟩
        have hb2 := hidIt (below_then hB1.out hb1)
        clear hb1
        go_wp2_with (fail)
        refine (refnodez_any y r1 r hrm2.out yb.out rb.out.1 _ (hL.below hb2.out hL.two)).mono ?_
        rintro e w2 ⟨rfl, hb3⟩
        have hb4 := hidIt (below_then hb2.out hb3)
        clear hb3
        go_wp2_with (fail)
        refine (refnodez_any y r2 s hrn2.out yb.out rb.out.2 _ (hL.below hb4.out hL.two)).mono ?_
        rintro e w3 ⟨rfl, hb5⟩
        go_wp2_with (fail)
        go_ret3
        exact ⟨rfl, below_then hb4.out hb5⟩
set_option maxRecDepth 100000 in
theorem refconsistent_any (a : Option Addr) (l cap : Nat) (P : List ByteArray) (x z : ByteArray) (m n : Int) (v : Bool) (hv : Hid (con m n x z P = v)) (hP : Sr P) (hx : x.size ≤ 64) (hbig : l ≤ 1000000000) (hm : -9223372036854775808 ≤ m ∧ m ≤ 9223372036854775807) (hn : -9223372036854775808 ≤ n ∧ n ≤ 9223372036854775807) (w : World) (hL : Laid w) (hR : Hid (RdS w a l cap P)) :
    Calls Tryd.prog 39 #[.int .i64 m, .int .i64 n, .string x, .string z, .slice a l cap] w fun e w' => e = .returned (.bool v) ∧ Below w.heap.size w w' := by
  by_cases h0 : m < 0
  · have hv2 : v = false := by rw [← hv.out, con, if_neg (by omega)]
    subst hv2
    clear hR
    go_enter Tryd.func39, Tryd.ntmps39
    go_wp2_with (fail)
    go_ret
    exact ⟨rfl, Below.refl _ _⟩
  by_cases h1 : n < m
  · have hv2 : v = false := by rw [← hv.out, con, if_neg (by omega)]
    subst hv2
    clear hR
    go_enter Tryd.func39, Tryd.ntmps39
    go_wp2_with (fail)
    go_ret
    exact ⟨rfl, Below.refl _ _⟩
  obtain ⟨m', rfl⟩ := Int.eq_ofNat_of_zero_le (show 0 ≤ m by omega)
  obtain ⟨n', rfl⟩ := Int.eq_ofNat_of_zero_le (show 0 ≤ n by omega)
  have hv2 := hv.out
  rw [con, if_pos (by omega), Int.toNat_natCast, Int.toNat_natCast] at hv2
  clear hv
  obtain ⟨b, hb⟩ : ∃ b, Hid (sumsB P = b) := ⟨_, rfl⟩
  obtain ⟨c, hc⟩ : ∃ c, Hid (sumsB [x, z] = c) := ⟨_, rfl⟩
  have hbA : Hid (Below w.heap.size w (w.alloc (.cells #[.string x, .string z] 9))) := (Below.refl _ _).alloc (Nat.le_refl _) _
  have hp := hidIt (rds_pair w x z)
  have hR1 := hidIt (hR.out.below hbA.out)
  have hml := hidIt hR.out.len
  rw [hb.out, hc.out, ← hml.out] at hv2
  clear hR
  have g1 : ¬ (m' : Int) < 0 := h0
  have g2 : ¬ (n' : Int) < (m' : Int) := h1
  cases c with
  | false =>
    rw [Bool.and_false, Bool.false_and] at hv2
    subst hv2
    go_enter Tryd.func39, Tryd.ntmps39
    go_wp2_with (fail)
    refine (refsums_any _ 2 2 [x, z] (by decide) false hc _ hp).mono ?_
    rintro e w1 ⟨rfl, rfl⟩
    go_wp2_with (fail)
    go_ret
    exact ⟨rfl, hbA.out⟩
  | true =>
    rw [Bool.and_true] at hv2
    have hv3 := hidIt hv2
    clear hv2
    go_enter Tryd.func39, Tryd.ntmps39
    go_wp2_with (fail)
    refine (refsums_any _ 2 2 [x, z] (by decide) true hc _ hp).mono ?_
    rintro e w1 ⟨rfl, rfl⟩
    go_wp2_with (fail)
    refine (refsums_any a l cap P (by omega) b hb _ hR1).mono ?_
    rintro e w1 ⟨rfl, rfl⟩
    cases b with
    | false =>
      rw [Bool.false_and] at hv3
      have hv4 : v = false := hv3.out.symm
      subst hv4
      go_wp2_with (fail)
      go_ret
      exact ⟨rfl, hbA.out⟩
    | true =>
    rw [Bool.true_and] at hv3
    have hv2 := hv3.out
    clear hv3 hb hc hp
    by_cases hm0 : m' = 0
    · have t0 : ((m' : Int) == 0) = true := by simp; omega
      rw [if_pos (by omega)] at hv2
      obtain ⟨q, hq⟩ : ∃ q, Hid (Mk.root [] = q) := ⟨_, rfl⟩
      rw [hq.out] at hv2
      have hv3 := hidIt hv2
      clear hv2 hm0
      by_cases hl0 : l = 0
      · have t1 : ((l : Int) == 0) = true := by simp; omega
        have l0 : (l == 0) = true := by simp; omega
        rw [l0, Bool.true_and] at hv3
        clear hl0 l0
        go_wp2_with (fail)
        refine (refroot_rec 0 [] q none 0 0 _ hq (Nat.le_refl _) (by decide) (fun s hs => by simp at hs) (hL.below hbA.out hL.two) (rds_none _)).mono ?_
        rintro e w1 ⟨rfl, hb3⟩
        have hb4 := hidIt (below_then hbA.out hb3)
        clear hb3 hbA hR1 hq
        by_cases hxq : x = q
        · subst hxq
          have q1 : (x.toList == x.toList) = true := by simp
          by_cases hn0 : n' = 0
          · obtain ⟨b2, hb2⟩ : ∃ b, (z.toList == x.toList) = b := ⟨_, rfl⟩
            have hv4 : v = b2 := by rw [← hv3.out, hn0, ← hb2, str_beq]; simp
            subst hv4
            have t2 : ¬ (0 : Int) < (n' : Int) := by omega
            clear hv3
            go_wp2_with (fail)
            go_ret
            exact ⟨rfl, hb4.out⟩
          · have hv4 : v = true := by rw [← hv3.out]; simp; exact Or.inl (by omega)
            subst hv4
            have t2 : (0 : Int) < (n' : Int) := by omega
            clear hv3
            go_wp2_with (fail)
            go_ret
            exact ⟨rfl, hb4.out⟩
        · have q1 : (x.toList == q.toList) = false := by rw [str_beq]; simp [hxq]
          have hv4 : v = false := by rw [← hv3.out]; simp [hxq]
          subst hv4
          clear hv3 hxq
          go_wp2_with (fail)
          go_ret
          exact ⟨rfl, hb4.out⟩
      · have t1 : ((l : Int) == 0) = false := by simp; omega
        have hv4 : v = false := by
          have h5 : (l == 0) = false := by simp; omega
          rw [← hv3.out, h5]; rfl
        subst hv4
        clear hv3
        go_wp2_with (fail)
        go_ret
        exact ⟨rfl, hbA.out⟩
    · obtain ⟨⟨r, s, ok⟩, hu⟩ : ∃ z, Hid (Mk.both false P x l m' n' true = z) := ⟨_, rfl⟩
      have hk1 := Mk.both_ok (old := x) (P := P) false l m' n' true
      rw [hu.out] at hk1
      have hv1 : (ok && ((r.toList == x.toList) && (s.toList == z.toList))) = v := by
        rw [if_neg (by omega)] at hv2
        rw [← hv2, ← hk1.1]
        cases ok with
        | false => simp
        | true => rw [← (hk1.2 rfl).1, ← (hk1.2 rfl).2, ← str_beq, ← str_beq]
      have t1 : ((m' : Int) == 0) = false := by simp; omega
      have hv3 := hidIt hv1
      clear hv2 hv1 hk1
      go_wp2_with (fail)
      refine (refboth_rec a l cap P x hP hx hbig l m' n' true r s ok _ hu (by omega) (by omega) (by omega) (Nat.le_refl _) (hL.below hbA.out hL.two) hR1).mono ?_
      rintro e w1 ⟨rfl, hb3⟩
      have hb4 := hidIt (below_then hbA.out hb3)
      clear hb3 hbA hR1 hu
      obtain ⟨b1, hb1⟩ : ∃ b, (r.toList == x.toList) = b := ⟨_, rfl⟩
      obtain ⟨b2, hb2⟩ : ∃ b, (s.toList == z.toList) = b := ⟨_, rfl⟩
      rw [hb1, hb2] at hv3
      cases ok with
      | false =>
        have hv4 : v = false := by rw [← hv3.out]; rfl
        subst hv4
        clear hv3
        go_wp2_with (fail)
        go_ret
        exact ⟨rfl, hb4.out⟩
      | true =>
        cases b1 with
        | false =>
          have hv4 : v = false := by rw [← hv3.out]; rfl
          subst hv4
          clear hv3
          go_wp2_with (fail)
          go_ret
          exact ⟨rfl, hb4.out⟩
        | true =>
          have hv4 : v = b2 := by rw [← hv3.out]; rfl
          subst hv4
          clear hv3
          go_wp2_with (fail)
          go_ret
          exact ⟨rfl, hb4.out⟩
end Go.Proofs.YtgkomejckbccdaaDoor
