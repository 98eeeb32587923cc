import Derived.Test.YtgkomejckbccdaaDoorVer
namespace Go.Proofs.YtgkomejckbccdaaDoor
open Go.RowKit
theorem both_bound {e : Bool} {old : ByteArray} {P : List ByteArray} (ho : old.size ≤ 1000000) (hP : Sm P) (l : Nat) : ∀ m n kn, (Mk.both e P old l m n kn).1.size ≤ 1000000 ∧ (Mk.both e P old l m n kn).2.1.size ≤ 1000000 := by
  have he : (ByteArray.empty).size ≤ 1000000 := by decide
  induction l with
  | zero => intro m n kn; unfold Mk.both; split <;> exact ⟨by assumption, by assumption⟩
  | succ l ih =>
    intro m n kn
    unfold Mk.both
    split
    · split
      · exact ⟨ho, ho⟩
      · split
        · exact ⟨getD_sm hP 0, getD_sm hP 0⟩
        · split
          · exact ⟨getD_sm hP l, getD_sm hP l⟩
          · exact ⟨he, he⟩
    · split
      · exact ⟨(ih _ _ _).1, by rw [Mk.node_size]; decide⟩
      · exact ⟨by rw [Mk.node_size]; decide, by rw [Mk.node_size]; decide⟩
set_option maxRecDepth 100000 in
theorem both_rec (a : Option Addr) (n0 cap : Nat) (P : List ByteArray) (x : ByteArray) (hP : Sm P) (hx : x.size ≤ 1000000) (hbig : n0 ≤ 1000000000) (l : Nat) : ∀ (m n : Nat) (kn : Bool) (r s : ByteArray) (ok : Bool) (w : World), Hid (Mk.both true P x l m n kn = (r, s, ok)) → 1 ≤ m → m ≤ n → n < 9223372036854775808 → l ≤ n0 → Laid w → Hid (RdS w a n0 cap P) →
    Calls Tryd.prog 71 #[.int .i64 (m : Int), .int .i64 (n : Int), .bool kn, .string x, .slice a l cap] w fun e w' => e = .returned (.tuple #[.string r, .string s, .bool ok]) ∧ Below w.heap.size w w' := by
  induction l with
  | zero =>
    intro m n kn r s ok w hr h1 hmn hn _ hL hR
    have hr2 := hr.out
    clear hr
    unfold Mk.both at hr2
    by_cases hm : m = n
    · subst hm
      cases kn with
      | true =>
        rw [if_pos ⟨rfl, rfl⟩] at hr2
        obtain ⟨rfl, h3⟩ := Prod.mk.inj hr2
        obtain ⟨rfl, rfl⟩ := Prod.mk.inj h3
        clear hr2 h3 hR
        go_enter Tryd.func71, Tryd.ntmps71
        go_wp2_with (fail)
        go_ret3
        exact ⟨rfl, Below.refl _ _⟩
      | false =>
        rw [if_neg (fun h => by cases h.2)] at hr2
        obtain ⟨rfl, h3⟩ := Prod.mk.inj hr2
        obtain ⟨rfl, rfl⟩ := Prod.mk.inj h3
        clear hr2 h3 hR
        go_enter Tryd.func71, Tryd.ntmps71
        go_wp2_with (fail)
        go_ret3
        exact ⟨rfl, Below.refl _ _⟩
    · rw [if_neg (fun h => hm h.1)] at hr2
      obtain ⟨rfl, h3⟩ := Prod.mk.inj hr2
      obtain ⟨rfl, rfl⟩ := Prod.mk.inj h3
      have t1 : ((m : Int) == (n : Int)) = false := by simp; omega
      clear hr2 h3 hR
      go_enter Tryd.func71, Tryd.ntmps71
      go_wp2_with (fail)
      go_ret3
      exact ⟨rfl, Below.refl _ _⟩
  | succ l ih =>
    intro m n kn r s ok w hr h1 hmn hn hl0 hL hR
    have hr2 := hr.out
    clear hr
    unfold Mk.both at hr2
    obtain ⟨q, hq⟩ : ∃ q, Hid (l + 1 = q) := ⟨_, rfl⟩
    have q0 : ((q : Int) == 0) = false := by have := hq.out; simp; omega
    rw [hq.out]
    obtain ⟨y, hy⟩ : ∃ y, Hid (P.getD l ByteArray.empty = y) := ⟨_, rfl⟩
    have yb : Hid (y.size ≤ 1000000) := by show _ ≤ _; rw [← hy.out]; exact getD_sm hP l
    have s1 : (q : Int) - 1 = (l : Int) := by have := hq.out; omega
    have s2 : IntKind.i64.wrap (l : Int) = (l : Int) := IntWalk.i64_in _ (by omega)
    have sl := fun W => sliceSH a q cap l (by have := hq.out; have := hR.out.cap; omega) W
    obtain ⟨b, o, rfl, hc⟩ := hR.out.cell (i := l) (by omega) hy.out
    have y0 : (0 : Int) ≤ (l : Int) := by omega
    have y1 : (l : Int) < (q : Int) := by have := hq.out; omega
    by_cases hm : m = n
    · subst hm
      rw [if_pos rfl] at hr2
      cases kn with
      | true =>
        rw [if_pos rfl] at hr2
        obtain ⟨rfl, h3⟩ := Prod.mk.inj hr2
        obtain ⟨rfl, rfl⟩ := Prod.mk.inj h3
        clear hr2 h3 hR ih
        go_enter Tryd.func71, Tryd.ntmps71
        go_wp2_with (fail)
        go_ret3
        exact ⟨rfl, Below.refl _ _⟩
      | false =>
        rw [if_neg (by decide)] at hr2
        by_cases hl1 : l = 0
        · have hy0 : P.getD 0 ByteArray.empty = y := by rw [← hy.out, hl1]
          rw [if_pos hl1, hy0] at hr2
          obtain ⟨rfl, h3⟩ := Prod.mk.inj hr2
          obtain ⟨rfl, rfl⟩ := Prod.mk.inj h3
          have t3 : ((l : Int) == 0) = true := by simp; omega
          clear hr2 h3 hR ih hy hy0 hl1
          go_enter Tryd.func71, Tryd.ntmps71
          go_wp2_with (fail)
          go_quiet (fail)
          go_wp2_with (fail)
          go_ret3
          exact ⟨rfl, below_drewN (Below.refl _ _) _⟩
        · rw [if_neg hl1, if_pos rfl, hy.out] at hr2
          obtain ⟨rfl, h3⟩ := Prod.mk.inj hr2
          obtain ⟨rfl, rfl⟩ := Prod.mk.inj h3
          have t3 : ((l : Int) == 0) = false := by simp; omega
          clear hr2 h3 hR ih hy
          go_enter Tryd.func71, Tryd.ntmps71
          go_wp2_with (fail)
          go_quiet (fail)
          go_wp2_with (fail)
          go_ret3
          exact ⟨rfl, below_drewN (Below.refl _ _) _⟩
    · rw [if_neg hm, hy.out] at hr2
      have t1 : ((m : Int) == (n : Int)) = false := by simp; omega
      have h2 : 2 ≤ n := by omega
      obtain ⟨k, hk⟩ : ∃ k, Hid (Mk.spl n = k) := ⟨_, rfl⟩
      rw [hk.out] at hr2
      have hkl : Hid (k < n) := by show _ < _; rw [← hk.out]; exact Mk.spl_lt h2
      have hkp : Hid (0 < k) := by show _ < _; rw [← hk.out]; exact Mk.spl_pos n
      by_cases his : m ≤ k
      · obtain ⟨⟨r1, r2, ok1⟩, hu⟩ : ∃ z, Hid (Mk.both true P x l m k kn = z) := ⟨_, rfl⟩
        rw [if_pos his, hu.out] at hr2
        obtain ⟨rfl, h3⟩ := Prod.mk.inj hr2
        obtain ⟨hrn, rfl⟩ := Prod.mk.inj h3
        have r2b : Hid (r2.size ≤ 1000000) := by
          have := (both_bound (e := true) hx hP l m k kn).2
          rw [hu.out] at this; exact this
        have d1 : Hid (∀ W, Below w.heap.size w W → Calls Tryd.prog 71 #[.int .i64 (m : Int), .int .i64 (k : Int), .bool kn, .string x, .slice (some ⟨b, o, none⟩) l cap] W fun e w' => e = .returned (.tuple #[.string r1, .string r2, .bool ok1]) ∧ Below W.heap.size W w') := fun W hW =>
          ih m k kn r1 r2 ok1 W hu h1 his (by have := hkl.out; omega) (by omega) (hL.below hW hL.two) (hR.out.below hW)
        have t2 : (m : Int) ≤ (k : Int) := by omega
        have hrn2 := hidIt hrn
        clear hr2 h3 hR ih hrn hu hy
        go_enter Tryd.func71, Tryd.ntmps71
        go_wp2_with (fail)
        go_quiet (fail)
        go_wp2_with (fail)
        refine (splitz_any n k hk.out h2 (by omega) _).mono ?_
        rintro e w1 ⟨rfl, hbs⟩
        subst hbs
        have hB1 := hidIt (below_drewN (Below.refl w.heap.size w) nq)
        go_wp2_with (fail)
        refine (d1.out _ hB1.out).mono ?_
        rintro e w1 ⟨rfl, hb1⟩
        have hb2 := hidIt (below_then hB1.out hb1)
        clear hb1
        go_wp2_with (fail)
        refine (nodez_any r2 y s hrn2.out r2b.out yb.out _ (hL.below hb2.out hL.two)).mono ?_
        rintro e w2 ⟨rfl, hb3⟩
        go_wp2_with (fail)
        go_ret3
        exact ⟨rfl, below_then hb2.out hb3⟩
      · obtain ⟨j, hj⟩ : ∃ j, Hid (m - k = j) := ⟨_, rfl⟩
        obtain ⟨c, hc2⟩ : ∃ c, Hid (n - k = c) := ⟨_, rfl⟩
        obtain ⟨⟨r1, r2, ok1⟩, hu⟩ : ∃ z, Hid (Mk.both true P x l j c false = z) := ⟨_, rfl⟩
        rw [if_neg his, hj.out, hc2.out, hu.out] at hr2
        obtain ⟨hrm, h3⟩ := Prod.mk.inj hr2
        obtain ⟨hrn, rfl⟩ := Prod.mk.inj h3
        have s3 : (m : Int) - (k : Int) = (j : Int) := by have := hj.out; omega
        have s4 : (n : Int) - (k : Int) = (c : Int) := by have := hc2.out; have := hkl.out; omega
        have s5 : IntKind.i64.wrap (j : Int) = (j : Int) := by have := hj.out; exact IntWalk.i64_in _ (by omega)
        have s6 : IntKind.i64.wrap (c : Int) = (c : Int) := by have := hc2.out; exact IntWalk.i64_in _ (by omega)
        have rb : Hid (r1.size ≤ 1000000 ∧ r2.size ≤ 1000000) := by
          have := both_bound (e := true) hx hP l j c false
          rw [hu.out] at this; exact this
        have d1 : Hid (∀ W, Below w.heap.size w W → Calls Tryd.prog 71 #[.int .i64 (j : Int), .int .i64 (c : Int), .bool false, .string x, .slice (some ⟨b, o, none⟩) l cap] W fun e w' => e = .returned (.tuple #[.string r1, .string r2, .bool ok1]) ∧ Below W.heap.size W w') := fun W hW =>
          ih j c false r1 r2 ok1 W hu (by have := hj.out; omega) (by have := hj.out; have := hc2.out; omega) (by have := hc2.out; omega) (by omega) (hL.below hW hL.two) (hR.out.below hW)
        have t2 : ¬ (m : Int) ≤ (k : Int) := by omega
        have hrn2 := hidIt hrn
        have hrm2 := hidIt hrm
        clear hr2 h3 hR ih hrn hrm hu hy
        go_enter Tryd.func71, Tryd.ntmps71
        go_wp2_with (fail)
        go_quiet (fail)
        go_wp2_with (fail)
        refine (splitz_any n k hk.out h2 (by omega) _).mono ?_
        rintro e w1 ⟨rfl, hbs⟩
        subst hbs
        have hB1 := hidIt (below_drewN (Below.refl w.heap.size w) nq)
        go_wp2_with (fail)
        refine (d1.out _ hB1.out).mono ?_
        rintro e w1 ⟨rfl, hb1⟩
        have hb2 := hidIt (below_then hB1.out hb1)
        clear hb1
        go_wp2_with (fail)
        refine (nodez_any y r1 r hrm2.out yb.out rb.out.1 _ (hL.below hb2.out hL.two)).mono ?_
        rintro e w2 ⟨rfl, hb3⟩
        have hb4 := hidIt (below_then hb2.out hb3)
        clear hb3
        go_wp2_with (fail)
        refine (nodez_any y r2 s hrn2.out yb.out rb.out.2 _ (hL.below hb4.out hL.two)).mono ?_
        rintro e w3 ⟨rfl, hb5⟩
        go_wp2_with (fail)
        go_ret3
        exact ⟨rfl, below_then hb4.out hb5⟩
end Go.Proofs.YtgkomejckbccdaaDoor
