import Derived.Test.YtgkomejckbccdaaDoorSumsM
namespace Go.Proofs.YtgkomejckbccdaaDoor
open Go.RowKit
theorem up_bound {d x : ByteArray} {P : List ByteArray} (hd : d.size ≤ 1000000) (hx : x.size ≤ 1000000) (m i n : Nat) : (Mk.up d P x m i n).1.size ≤ 1000000 := by
  cases m with
  | zero => unfold Mk.up; split <;> assumption
  | succ m => unfold Mk.up; split
              · exact hx
              · split <;> (rw [Mk.node_size]; decide)
theorem getD_sm {P : List ByteArray} (h : Sm P) (m : Nat) : (P.getD m ByteArray.empty).size ≤ 1000000 := by
  rw [List.getD_eq_getElem?_getD]
  rcases Nat.lt_or_ge m P.length with h2 | h2
  · rw [List.getElem?_eq_getElem h2]; exact h _ (List.getElem_mem _)
  · rw [List.getElem?_eq_none h2]; decide
set_option maxRecDepth 100000 in
theorem climb_rec (a : Option Addr) (n0 cap : Nat) (P : List ByteArray) (x : ByteArray) (hP : Sm P) (hx : x.size ≤ 1000000) (hbig : n0 ≤ 1000000000) (m : Nat) : ∀ (i n : Nat) (r : ByteArray) (ok : Bool) (w : World), Hid (Mk.up x P x m i n = (r, ok)) → 1 ≤ n → n < 9223372036854775808 → i < n → m ≤ n0 → Laid w → Hid (RdS w a n0 cap P) →
    Calls Tryd.prog 64 #[.string x, .int .i64 (i : Int), .int .i64 (n : Int), .slice a m cap] w fun e w' => e = .returned (.tuple #[.string r, .bool ok]) ∧ Below w.heap.size w w' := by
  induction m with
  | zero =>
    intro i n r ok w hr h1 hn hi _ hL hR
    have hr2 := hr.out
    clear hr
    unfold Mk.up at hr2
    by_cases hn1 : n = 1
    · subst hn1
      rw [if_pos rfl] at hr2
      obtain ⟨rfl, rfl⟩ := Prod.mk.inj hr2
      clear hr2 hR
      go_enter Tryd.func64, Tryd.ntmps64
      go_wp2_with (fail)
      go_ret2
      exact ⟨rfl, Below.refl _ _⟩
    · rw [if_neg hn1] at hr2
      obtain ⟨rfl, rfl⟩ := Prod.mk.inj hr2
      have t1 : ¬ (n : Int) = 1 := by omega
      clear hr2 hR hn1
      go_enter Tryd.func64, Tryd.ntmps64
      go_wp2_with (fail)
      go_ret2
      exact ⟨rfl, Below.refl _ _⟩
  | succ m ih =>
    intro i n r ok w hr h1 hn hi hm hL hR
    have hr2 := hr.out
    clear hr
    unfold Mk.up at hr2
    obtain ⟨l, hl⟩ : ∃ l, Hid (m + 1 = l) := ⟨_, rfl⟩
    have l0 : ((l : Int) == 0) = false := by have := hl.out; simp; omega
    rw [hl.out]
    by_cases hn1 : n = 1
    · subst hn1
      rw [if_pos rfl] at hr2
      obtain ⟨rfl, rfl⟩ := Prod.mk.inj hr2
      clear hr2 hR ih
      go_enter Tryd.func64, Tryd.ntmps64
      go_wp2_with (fail)
      go_ret2
      exact ⟨rfl, Below.refl _ _⟩
    · rw [if_neg hn1] at hr2
      have t1 : ((n : Int) == 1) = false := by simp; omega
      have h2 : 2 ≤ n := by omega
      obtain ⟨k, hk⟩ : ∃ k, Hid (Mk.spl n = k) := ⟨_, rfl⟩
      obtain ⟨y, hy⟩ : ∃ y, Hid (P.getD m ByteArray.empty = y) := ⟨_, rfl⟩
      have yb : Hid (y.size ≤ 1000000) := by show _ ≤ _; rw [← hy.out]; exact getD_sm hP m
      rw [hk.out, hy.out] at hr2
      have hkl : Hid (k < n) := by show _ < _; rw [← hk.out]; exact Mk.spl_lt h2
      have hkp : Hid (0 < k) := by show _ < _; rw [← hk.out]; exact Mk.spl_pos n
      have s1 : (l : Int) - 1 = (m : Int) := by have := hl.out; omega
      have s2 : IntKind.i64.wrap (m : Int) = (m : Int) := IntWalk.i64_in _ (by omega)
      have sl := fun W => sliceSH a l cap m (by have := hl.out; have := hR.out.cap; omega) W
      obtain ⟨b, o, rfl, hc⟩ := hR.out.cell (i := m) (by omega) hy.out
      have y0 : (0 : Int) ≤ (m : Int) := by omega
      have y1 : (m : Int) < (l : Int) := by have := hl.out; omega
      by_cases his : i < k
      · obtain ⟨⟨r1, ok1⟩, hu⟩ : ∃ z, Hid (Mk.up x P x m i k = z) := ⟨_, rfl⟩
        rw [if_pos his, hu.out] at hr2
        obtain ⟨hrn, rfl⟩ := Prod.mk.inj hr2
        have r1b : Hid (r1.size ≤ 1000000) := by
          have := up_bound (d := x) (x := x) (P := P) hx hx m i k
          rw [hu.out] at this; exact this
        have d1 : Hid (∀ W, Below w.heap.size w W → Calls Tryd.prog 64 #[.string x, .int .i64 (i : Int), .int .i64 (k : Int), .slice (some ⟨b, o, none⟩) m cap] W fun e w' => e = .returned (.tuple #[.string r1, .bool ok1]) ∧ Below W.heap.size W w') := fun W hW =>
          ih i k r1 ok1 W hu hkp.out (by have := hkl.out; omega) his (by omega) (hL.below hW hL.two) (hR.out.below hW)
        have t2 : (i : Int) < (k : Int) := by omega
        have hrn2 := hidIt hrn
        clear hr2 hR ih hrn hu hy
        go_enter Tryd.func64, Tryd.ntmps64
        go_wp2_with (fail)
        go_quiet (fail)
        go_wp2_with (fail)
        refine (splitz_any n k hk.out h2 (by omega) _).mono ?_
        rintro e w1 ⟨rfl, rfl⟩
        go_wp2_with (fail)
        refine (d1.out _ (by first | exact Below.refl _ _ | exact below_drewN (Below.refl _ _) _)).mono ?_
        rintro e w1 ⟨rfl, hb1⟩
        go_wp2_with (fail)
        have hb2 := hidIt (below_then (below_drewN (Below.refl w.heap.size w) nq) hb1)
        clear hb1
        refine (nodez_any r1 y r hrn2.out r1b.out yb.out _ (hL.below hb2.out hL.two)).mono ?_
        rintro e w2 ⟨rfl, hb3⟩
        go_wp2_with (fail)
        go_ret2
        exact ⟨rfl, below_then hb2.out hb3⟩
      · obtain ⟨j, hj⟩ : ∃ j, Hid (i - k = j) := ⟨_, rfl⟩
        obtain ⟨c, hc2⟩ : ∃ c, Hid (n - k = c) := ⟨_, rfl⟩
        obtain ⟨⟨r1, ok1⟩, hu⟩ : ∃ z, Hid (Mk.up x P x m j c = z) := ⟨_, rfl⟩
        rw [if_neg his, hj.out, hc2.out, hu.out] at hr2
        have s3 : (i : Int) - (k : Int) = (j : Int) := by have := hj.out; omega
        have s4 : (n : Int) - (k : Int) = (c : Int) := by have := hc2.out; have := hkl.out; omega
        have s5 : IntKind.i64.wrap (j : Int) = (j : Int) := by have := hj.out; exact IntWalk.i64_in _ (by omega)
        have s6 : IntKind.i64.wrap (c : Int) = (c : Int) := by have := hc2.out; exact IntWalk.i64_in _ (by omega)
        obtain ⟨hrn, rfl⟩ := Prod.mk.inj hr2
        have r1b : Hid (r1.size ≤ 1000000) := by
          have := up_bound (d := x) (x := x) (P := P) hx hx m j c
          rw [hu.out] at this; exact this
        have d1 : Hid (∀ W, Below w.heap.size w W → Calls Tryd.prog 64 #[.string x, .int .i64 (j : Int), .int .i64 (c : Int), .slice (some ⟨b, o, none⟩) m cap] W fun e w' => e = .returned (.tuple #[.string r1, .bool ok1]) ∧ Below W.heap.size W w') := fun W hW =>
          ih j c r1 ok1 W hu (by have := hc2.out; have := hkl.out; omega) (by have := hc2.out; omega) (by have := hc2.out; have := hj.out; omega) (by omega) (hL.below hW hL.two) (hR.out.below hW)
        have t2 : ¬ (i : Int) < (k : Int) := by omega
        have hrn2 := hidIt hrn
        clear hr2 hR ih hrn hu hy
        go_enter Tryd.func64, Tryd.ntmps64
        go_wp2_with (fail)
        go_quiet (fail)
        go_wp2_with (fail)
        refine (splitz_any n k hk.out h2 (by omega) _).mono ?_
        rintro e w1 ⟨rfl, rfl⟩
        go_wp2_with (fail)
        refine (d1.out _ (by first | exact Below.refl _ _ | exact below_drewN (Below.refl _ _) _)).mono ?_
        rintro e w1 ⟨rfl, hb1⟩
        go_wp2_with (fail)
        have hb2 := hidIt (below_then (below_drewN (Below.refl w.heap.size w) nq) hb1)
        clear hb1
        refine (nodez_any y r1 r hrn2.out yb.out r1b.out _ (hL.below hb2.out hL.two)).mono ?_
        rintro e w2 ⟨rfl, hb3⟩
        go_wp2_with (fail)
        go_ret2
        exact ⟨rfl, below_then hb2.out hb3⟩
end Go.Proofs.YtgkomejckbccdaaDoor
