import Derived.Test.YtgkomejckbccdaaDoorRefB
import Derived.Test.YtgkomejckbccdaaDoorVer
namespace Go.Proofs.YtgkomejckbccdaaDoor
open Go.RowKit
theorem getD_sr {P : List ByteArray} (h : Sr P) (m : Nat) : (P.getD m ByteArray.empty).size ≤ 64 := by
  rw [List.getD_eq_getElem?_getD]
  rcases Nat.lt_or_ge m P.length with h2 | h2
  · rw [List.getElem?_eq_getElem h2]; exact h _ (List.getElem_mem _)
  · rw [List.getElem?_eq_none h2]; decide
theorem up_bound64 {d x : ByteArray} {P : List ByteArray} (hd : d.size ≤ 64) (hx : x.size ≤ 64) (m i n : Nat) : (Mk.up d P x m i n).1.size ≤ 64 := by
  cases m with
  | zero => unfold Mk.up; split <;> assumption
  | succ m => unfold Mk.up; split
              · exact hx
              · split <;> (rw [Mk.node_size]; decide)
theorem refsums_any (a : Option Addr) (n cap : Nat) (ss : List ByteArray) (hbig : n ≤ 140737488355328) (b : Bool) (hb : Hid (sumsB ss = b)) (w : World) (hR : Hid (RdS w a n cap ss)) :
    Calls Tryd.prog 29 #[.slice a n cap] w fun e w' => e = .returned (.bool b) ∧ w = w' := by
  go_enter Tryd.func29, Tryd.ntmps29
  go_wp2
  go_loop [7, 4] (fun i _ => ∃ k : Nat, k ≤ n ∧ i = .int .i64 (k : Int) ∧ Hid (∀ j, j < k → (ss.getD j ByteArray.empty).size = 32)) (fun i _ => n - (intOf i).toNat)
  case atStart => exact ⟨0, by omega, rfl, fun j hj => by omega⟩
  case round =>
    obtain ⟨k, hk, rfl, hall⟩ := hrel
    by_cases hlt : k < n
    · have e1 : (k : Int) < (n : Int) := by omega
      obtain ⟨s, hs⟩ : ∃ s, Hid (ss.getD k ByteArray.empty = s) := ⟨_, rfl⟩
      obtain ⟨bl, o, rfl, e2⟩ := hR.out.cell hlt hs.out
      by_cases h32 : s.size = 32
      · have hnext : Hid (∀ j, j < k + 1 → (ss.getD j ByteArray.empty).size = 32) := fun j hj => by
          by_cases hjk : j < k
          · exact hall.out j hjk
          · obtain rfl : j = k := by omega
            rw [hs.out]; exact h32
        have t1 : ((s.size : Int) != 32) = false := by simp; omega
        clear hall h32
        go_wp2
        go_round
        case rel => exact ⟨k + 1, by omega, by go_num, hnext⟩
        case measure => simp [intOf]; omega
      · have hbad : Hid (b = false) := by
          show _ = _
          rw [← hb.out]
          exact sumsB_bad (i := k) (by have := hR.out.len; omega) (by rw [hs.out]; exact h32)
        have t1 : ((s.size : Int) != 32) = true := by simp; omega
        clear hall h32
        go_wp2
        go_ret
        exact ⟨by rw [hbad.out]; rfl, rfl⟩
    · obtain rfl : k = n := by omega
      have e1 : ¬ (k : Int) < (k : Int) := by omega
      have hgood : Hid (b = true) := by
        show _ = _
        rw [← hb.out]
        exact sumsB_getD fun i hi => hall.out i (by have := hR.out.len; omega)
      clear hall
      go_wp2
      go_ret
      exact ⟨by rw [hgood.out]; rfl, rfl⟩
set_option maxRecDepth 100000 in
theorem refup_rec (a : Option Addr) (n0 cap : Nat) (P : List ByteArray) (x : ByteArray) (hP : Sr P) (hx : x.size ≤ 64) (hbig : n0 ≤ 1000000000) (m : Nat) : ∀ (i n : Nat) (r : ByteArray) (ok : Bool) (w : World), Hid (Mk.up ByteArray.empty P x m i n = (r, ok)) → 1 ≤ n → n < 9223372036854775808 → i < n → m ≤ n0 → Laid w → Hid (RdS w a n0 cap P) →
    Calls Tryd.prog 65 #[.string x, .int .i64 (i : Int), .int .i64 (n : Int), .slice a m cap] w fun e w' => e = .returned (.tuple #[.string r, .bool ok]) ∧ Below w.heap.size w w' := by
  induction m with
  | zero =>
    intro i n r ok w hr h1 hn hi _ hL hR
    have hr2 := hr.out
    clear hr
    unfold Mk.up at hr2
    by_cases hn1 : n = 1
    · subst hn1
      rw [if_pos rfl] at hr2
      obtain ⟨rfl, rfl⟩ := Prod.mk.inj hr2
      clear hr2 hR
      go_enter Tryd.func65, Tryd.ntmps65
      go_wp2_with (fail)
      go_ret2
      exact ⟨rfl, Below.refl _ _⟩
    · rw [if_neg hn1] at hr2
      obtain ⟨rfl, rfl⟩ := Prod.mk.inj hr2
      have t1 : ¬ (n : Int) = 1 := by omega
      clear hr2 hR hn1
      go_enter Tryd.func65, Tryd.ntmps65
      go_wp2_with (fail)
      go_ret2
      exact ⟨rfl, Below.refl _ _⟩
  | succ m ih =>
    intro i n r ok w hr h1 hn hi hm hL hR
    have hr2 := hr.out
    clear hr
    unfold Mk.up at hr2
    obtain ⟨l, hl⟩ : ∃ l, Hid (m + 1 = l) := ⟨_, rfl⟩
    have l0 : ((l : Int) == 0) = false := by have := hl.out; simp; omega
    rw [hl.out]
    by_cases hn1 : n = 1
    · subst hn1
      rw [if_pos rfl] at hr2
      obtain ⟨rfl, rfl⟩ := Prod.mk.inj hr2
      clear hr2 hR ih
      go_enter Tryd.func65, Tryd.ntmps65
      go_wp2_with (fail)
      go_ret2
      exact ⟨rfl, Below.refl _ _⟩
    · rw [if_neg hn1] at hr2
      have t1 : ((n : Int) == 1) = false := by simp; omega
      have h2 : 2 ≤ n := by omega
      obtain ⟨k, hk⟩ : ∃ k, Hid (Mk.spl n = k) := ⟨_, rfl⟩
      obtain ⟨y, hy⟩ : ∃ y, Hid (P.getD m ByteArray.empty = y) := ⟨_, rfl⟩
      have yb : Hid (y.size ≤ 64) := by show _ ≤ _; rw [← hy.out]; exact getD_sr hP m
      rw [hk.out, hy.out] at hr2
      have hkl : Hid (k < n) := by show _ < _; rw [← hk.out]; exact Mk.spl_lt h2
      have hkp : Hid (0 < k) := by show _ < _; rw [← hk.out]; exact Mk.spl_pos n
      have s1 : (l : Int) - 1 = (m : Int) := by have := hl.out; omega
      have s2 : IntKind.i64.wrap (m : Int) = (m : Int) := IntWalk.i64_in _ (by omega)
      have sl := fun W => sliceSH a l cap m (by have := hl.out; have := hR.out.cap; omega) W
      obtain ⟨b, o, rfl, hc⟩ := hR.out.cell (i := m) (by omega) hy.out
      have y0 : (0 : Int) ≤ (m : Int) := by omega
      have y1 : (m : Int) < (l : Int) := by have := hl.out; omega
      by_cases his : i < k
      · obtain ⟨⟨r1, ok1⟩, hu⟩ : ∃ z, Hid (Mk.up ByteArray.empty P x m i k = z) := ⟨_, rfl⟩
        rw [if_pos his, hu.out] at hr2
        obtain ⟨hrn, rfl⟩ := Prod.mk.inj hr2
        have r1b : Hid (r1.size ≤ 64) := by
          have := up_bound64 (d := ByteArray.empty) (x := x) (P := P) (by decide) hx m i k
          rw [hu.out] at this; exact this
        have d1 : Hid (∀ W, Below w.heap.size w W → Calls Tryd.prog 65 #[.string x, .int .i64 (i : Int), .int .i64 (k : Int), .slice (some ⟨b, o, none⟩) m cap] W fun e w' => e = .returned (.tuple #[.string r1, .bool ok1]) ∧ Below W.heap.size W w') := fun W hW =>
          ih i k r1 ok1 W hu hkp.out (by have := hkl.out; omega) his (by omega) (hL.below hW hL.two) (hR.out.below hW)
        have t2 : (i : Int) < (k : Int) := by omega
        have hrn2 := hidIt hrn
        clear hr2 hR ih hrn hu hy
        go_enter Tryd.func65, Tryd.ntmps65
        go_wp2_with (fail)
        go_quiet (fail)
        go_wp2_with (fail)
        refine (refsplitz_any n k hk.out h2 (by omega) _).mono ?_
        rintro e w1 ⟨rfl, rfl⟩
        go_wp2_with (fail)
        refine (d1.out _ (by first | exact Below.refl _ _ | exact below_drewN (Below.refl _ _) _)).mono ?_
        rintro e w1 ⟨rfl, hb1⟩
        go_wp2_with (fail)
        have hb2 := hidIt (below_then (below_drewN (Below.refl w.heap.size w) nq) hb1)
        clear hb1
        refine (refnodez_any r1 y r hrn2.out r1b.out yb.out _ (hL.below hb2.out hL.two)).mono ?_
        rintro e w2 ⟨rfl, hb3⟩
        go_wp2_with (fail)
        go_ret2
        exact ⟨rfl, below_then hb2.out hb3⟩
      · obtain ⟨j, hj⟩ : ∃ j, Hid (i - k = j) := ⟨_, rfl⟩
        obtain ⟨c, hc2⟩ : ∃ c, Hid (n - k = c) := ⟨_, rfl⟩
        obtain ⟨⟨r1, ok1⟩, hu⟩ : ∃ z, Hid (Mk.up ByteArray.empty P x m j c = z) := ⟨_, rfl⟩
        rw [if_neg his, hj.out, hc2.out, hu.out] at hr2
        have s3 : (i : Int) - (k : Int) = (j : Int) := by have := hj.out; omega
        have s4 : (n : Int) - (k : Int) = (c : Int) := by have := hc2.out; have := hkl.out; omega
        have s5 : IntKind.i64.wrap (j : Int) = (j : Int) := by have := hj.out; exact IntWalk.i64_in _ (by omega)
        have s6 : IntKind.i64.wrap (c : Int) = (c : Int) := by have := hc2.out; exact IntWalk.i64_in _ (by omega)
        obtain ⟨hrn, rfl⟩ := Prod.mk.inj hr2
        have r1b : Hid (r1.size ≤ 64) := by
          have := up_bound64 (d := ByteArray.empty) (x := x) (P := P) (by decide) hx m j c
          rw [hu.out] at this; exact this
        have d1 : Hid (∀ W, Below w.heap.size w W → Calls Tryd.prog 65 #[.string x, .int .i64 (j : Int), .int .i64 (c : Int), .slice (some ⟨b, o, none⟩) m cap] W fun e w' => e = .returned (.tuple #[.string r1, .bool ok1]) ∧ Below W.heap.size W w') := fun W hW =>
          ih j c r1 ok1 W hu (by have := hc2.out; have := hkl.out; omega) (by have := hc2.out; omega) (by have := hc2.out; have := hj.out; omega) (by omega) (hL.below hW hL.two) (hR.out.below hW)
        have t2 : ¬ (i : Int) < (k : Int) := by omega
        have hrn2 := hidIt hrn
        clear hr2 hR ih hrn hu hy
        go_enter Tryd.func65, Tryd.ntmps65
        go_wp2_with (fail)
        go_quiet (fail)
        go_wp2_with (fail)
        refine (refsplitz_any n k hk.out h2 (by omega) _).mono ?_
        rintro e w1 ⟨rfl, rfl⟩
        go_wp2_with (fail)
        refine (d1.out _ (by first | exact Below.refl _ _ | exact below_drewN (Below.refl _ _) _)).mono ?_
        rintro e w1 ⟨rfl, hb1⟩
        go_wp2_with (fail)
        have hb2 := hidIt (below_then (below_drewN (Below.refl w.heap.size w) nq) hb1)
        clear hb1
        refine (refnodez_any y r1 r hrn2.out yb.out r1b.out _ (hL.below hb2.out hL.two)).mono ?_
        rintro e w2 ⟨rfl, hb3⟩
        go_wp2_with (fail)
        go_ret2
        exact ⟨rfl, below_then hb2.out hb3⟩
set_option maxRecDepth 100000 in
theorem recomp_rec (a : Option Addr) (n0 cap : Nat) (P : List ByteArray) (x : ByteArray) (hP : Sr P) (hx : x.size ≤ 64) (hbig : n0 ≤ 1000000000) (m : Nat) : ∀ (i n : Nat) (r : ByteArray) (ok : Bool) (w : World), Hid (Mk.up x P x m i n = (r, ok)) → 1 ≤ n → n < 9223372036854775808 → i < n → m ≤ n0 → Laid w → Hid (RdS w a n0 cap P) →
    Calls Tryd.prog 66 #[.string x, .int .i64 (i : Int), .int .i64 (n : Int), .slice a m cap] w fun e w' => e = .returned (.string r) ∧ Below w.heap.size w w' := by
  induction m with
  | zero =>
    intro i n r ok w hr h1 hn hi _ hL hR
    have hr2 := hr.out
    clear hr
    unfold Mk.up at hr2
    by_cases hn1 : n = 1
    · subst hn1
      rw [if_pos rfl] at hr2
      obtain ⟨rfl, rfl⟩ := Prod.mk.inj hr2
      clear hr2 hR
      go_enter Tryd.func66, Tryd.ntmps66
      go_wp2_with (fail)
      go_ret
      exact ⟨rfl, Below.refl _ _⟩
    · rw [if_neg hn1] at hr2
      obtain ⟨rfl, rfl⟩ := Prod.mk.inj hr2
      have t1 : ¬ (n : Int) = 1 := by omega
      clear hr2 hR hn1
      go_enter Tryd.func66, Tryd.ntmps66
      go_wp2_with (fail)
      go_ret
      exact ⟨rfl, Below.refl _ _⟩
  | succ m ih =>
    intro i n r ok w hr h1 hn hi hm hL hR
    have hr2 := hr.out
    clear hr
    unfold Mk.up at hr2
    obtain ⟨l, hl⟩ : ∃ l, Hid (m + 1 = l) := ⟨_, rfl⟩
    have l0 : ((l : Int) == 0) = false := by have := hl.out; simp; omega
    rw [hl.out]
    by_cases hn1 : n = 1
    · subst hn1
      rw [if_pos rfl] at hr2
      obtain ⟨rfl, rfl⟩ := Prod.mk.inj hr2
      clear hr2 hR ih
      go_enter Tryd.func66, Tryd.ntmps66
      go_wp2_with (fail)
      go_ret
      exact ⟨rfl, Below.refl _ _⟩
    · rw [if_neg hn1] at hr2
      have t1 : ((n : Int) == 1) = false := by simp; omega
      have h2 : 2 ≤ n := by omega
      obtain ⟨k, hk⟩ : ∃ k, Hid (Mk.spl n = k) := ⟨_, rfl⟩
      obtain ⟨y, hy⟩ : ∃ y, Hid (P.getD m ByteArray.empty = y) := ⟨_, rfl⟩
      have yb : Hid (y.size ≤ 64) := by show _ ≤ _; rw [← hy.out]; exact getD_sr hP m
      rw [hk.out, hy.out] at hr2
      have hkl : Hid (k < n) := by show _ < _; rw [← hk.out]; exact Mk.spl_lt h2
      have hkp : Hid (0 < k) := by show _ < _; rw [← hk.out]; exact Mk.spl_pos n
      have s1 : (l : Int) - 1 = (m : Int) := by have := hl.out; omega
      have s2 : IntKind.i64.wrap (m : Int) = (m : Int) := IntWalk.i64_in _ (by omega)
      have sl := fun W => sliceSH a l cap m (by have := hl.out; have := hR.out.cap; omega) W
      obtain ⟨b, o, rfl, hc⟩ := hR.out.cell (i := m) (by omega) hy.out
      have y0 : (0 : Int) ≤ (m : Int) := by omega
      have y1 : (m : Int) < (l : Int) := by have := hl.out; omega
      by_cases his : i < k
      · obtain ⟨⟨r1, ok1⟩, hu⟩ : ∃ z, Hid (Mk.up x P x m i k = z) := ⟨_, rfl⟩
        rw [if_pos his, hu.out] at hr2
        obtain ⟨hrn, rfl⟩ := Prod.mk.inj hr2
        have r1b : Hid (r1.size ≤ 64) := by
          have := up_bound64 (d := x) (x := x) (P := P) hx hx m i k
          rw [hu.out] at this; exact this
        have d1 : Hid (∀ W, Below w.heap.size w W → Calls Tryd.prog 66 #[.string x, .int .i64 (i : Int), .int .i64 (k : Int), .slice (some ⟨b, o, none⟩) m cap] W fun e w' => e = .returned (.string r1) ∧ Below W.heap.size W w') := fun W hW =>
          ih i k r1 ok1 W hu hkp.out (by have := hkl.out; omega) his (by omega) (hL.below hW hL.two) (hR.out.below hW)
        have t2 : (i : Int) < (k : Int) := by omega
        have hrn2 := hidIt hrn
        clear hr2 hR ih hrn hu hy
        go_enter Tryd.func66, Tryd.ntmps66
        go_wp2_with (fail)
        refine (refsplitz_any n k hk.out h2 (by omega) _).mono ?_
        rintro e w1 ⟨rfl, rfl⟩
        go_wp2_with (fail)
        go_quiet (fail)
        go_wp2_with (fail)
        refine (d1.out _ (by first | exact Below.refl _ _ | exact below_drewN (Below.refl _ _) _)).mono ?_
        rintro e w1 ⟨rfl, hb1⟩
        go_wp2_with (fail)
        have hb2 := hidIt (below_then (below_drewN (Below.refl w.heap.size w) nq) hb1)
        clear hb1
        refine (refnodez_any r1 y r hrn2.out r1b.out yb.out _ (hL.below hb2.out hL.two)).mono ?_
        rintro e w2 ⟨rfl, hb3⟩
        go_wp2_with (fail)
        go_ret
        exact ⟨rfl, below_then hb2.out hb3⟩
      · obtain ⟨j, hj⟩ : ∃ j, Hid (i - k = j) := ⟨_, rfl⟩
        obtain ⟨c, hc2⟩ : ∃ c, Hid (n - k = c) := ⟨_, rfl⟩
        obtain ⟨⟨r1, ok1⟩, hu⟩ : ∃ z, Hid (Mk.up x P x m j c = z) := ⟨_, rfl⟩
        rw [if_neg his, hj.out, hc2.out, hu.out] at hr2
        have s3 : (i : Int) - (k : Int) = (j : Int) := by have := hj.out; omega
        have s4 : (n : Int) - (k : Int) = (c : Int) := by have := hc2.out; have := hkl.out; omega
        have s5 : IntKind.i64.wrap (j : Int) = (j : Int) := by have := hj.out; exact IntWalk.i64_in _ (by omega)
        have s6 : IntKind.i64.wrap (c : Int) = (c : Int) := by have := hc2.out; exact IntWalk.i64_in _ (by omega)
        obtain ⟨hrn, rfl⟩ := Prod.mk.inj hr2
        have r1b : Hid (r1.size ≤ 64) := by
          have := up_bound64 (d := x) (x := x) (P := P) hx hx m j c
          rw [hu.out] at this; exact this
        have d1 : Hid (∀ W, Below w.heap.size w W → Calls Tryd.prog 66 #[.string x, .int .i64 (j : Int), .int .i64 (c : Int), .slice (some ⟨b, o, none⟩) m cap] W fun e w' => e = .returned (.string r1) ∧ Below W.heap.size W w') := fun W hW =>
          ih j c r1 ok1 W hu (by have := hc2.out; have := hkl.out; omega) (by have := hc2.out; omega) (by have := hc2.out; have := hj.out; omega) (by omega) (hL.below hW hL.two) (hR.out.below hW)
        have t2 : ¬ (i : Int) < (k : Int) := by omega
        have hrn2 := hidIt hrn
        clear hr2 hR ih hrn hu hy
        go_enter Tryd.func66, Tryd.ntmps66
        go_wp2_with (fail)
        refine (refsplitz_any n k hk.out h2 (by omega) _).mono ?_
        rintro e w1 ⟨rfl, rfl⟩
        go_wp2_with (fail)
        go_quiet (fail)
        go_wp2_with (fail)
        refine (d1.out _ (by first | exact Below.refl _ _ | exact below_drewN (Below.refl _ _) _)).mono ?_
        rintro e w1 ⟨rfl, hb1⟩
        go_wp2_with (fail)
        have hb2 := hidIt (below_then (below_drewN (Below.refl w.heap.size w) nq) hb1)
        clear hb1
        refine (refnodez_any y r1 r hrn2.out yb.out r1b.out _ (hL.below hb2.out hL.two)).mono ?_
        rintro e w2 ⟨rfl, hb3⟩
        go_wp2_with (fail)
        go_ret
        exact ⟨rfl, below_then hb2.out hb3⟩
set_option maxRecDepth 100000 in
theorem refverify_any (a : Option Addr) (m cap : Nat) (P : List ByteArray) (x z : ByteArray) (i n : Int) (v : Bool) (hv : Hid (ver x i n P z = v)) (hP : Sr P) (hx : x.size ≤ 64) (hbig : m ≤ 1000000000) (hi : -9223372036854775808 ≤ i ∧ i ≤ 9223372036854775807) (hn : -9223372036854775808 ≤ n ∧ n ≤ 9223372036854775807) (w : World) (hL : Laid w) (hR : Hid (RdS w a m cap P)) :
    Calls Tryd.prog 28 #[.string x, .int .i64 i, .int .i64 n, .slice a m cap, .string z] w fun e w' => e = .returned (.bool v) ∧ Below w.heap.size w w' := by
  by_cases h0 : i < 0
  · have hv2 : v = false := by rw [← hv.out, ver, if_neg (by omega)]
    subst hv2
    clear hR
    go_enter Tryd.func28, Tryd.ntmps28
    go_wp2_with (fail)
    go_ret
    exact ⟨rfl, Below.refl _ _⟩
  by_cases h1 : n ≤ i
  · have hv2 : v = false := by rw [← hv.out, ver, if_neg (by omega)]
    subst hv2
    clear hR
    go_enter Tryd.func28, Tryd.ntmps28
    go_wp2_with (fail)
    go_ret
    exact ⟨rfl, Below.refl _ _⟩
  obtain ⟨i', rfl⟩ := Int.eq_ofNat_of_zero_le (show 0 ≤ i by omega)
  obtain ⟨n', rfl⟩ := Int.eq_ofNat_of_zero_le (show 0 ≤ n by omega)
  have hv2 := hv.out
  rw [ver, if_pos (by omega), Int.toNat_natCast, Int.toNat_natCast] at hv2
  clear hv
  obtain ⟨b, hb⟩ : ∃ b, Hid (sumsB P = b) := ⟨_, rfl⟩
  obtain ⟨c, hc⟩ : ∃ c, Hid (sumsB [x, z] = c) := ⟨_, rfl⟩
  have hbA : Hid (Below w.heap.size w (w.alloc (.cells #[.string x, .string z] 9))) := (Below.refl _ _).alloc (Nat.le_refl _) _
  have hp := hidIt (rds_pair w x z)
  have hR1 := hidIt (hR.out.below hbA.out)
  obtain ⟨⟨r, ok⟩, hu⟩ : ∃ z, Hid (Mk.up ByteArray.empty P x P.length i' n' = z) := ⟨_, rfl⟩
  have hk1 := Mk.up_ok (d := ByteArray.empty) (x := x) (P := P) x P.length i' n'
  rw [hu.out] at hk1
  have hv1 : (b && c && (ok && (r.toList == z.toList))) = v := by
    rw [← hv2, hb.out, hc.out, ← hk1.1]
    cases ok with
    | false => simp
    | true => rw [← hk1.2 rfl, ← str_beq]
  clear hv2 hk1
  have hv2 := hv1
  clear hv1
  have hml := hidIt hR.out.len
  rw [← hml.out] at hu
  have hv3 := hidIt hv2
  clear hv2 hR
  have g1 : ¬ (i' : Int) < 0 := h0
  have g2 : ¬ (n' : Int) ≤ (i' : Int) := h1
  cases c with
  | false =>
    rw [Bool.and_false, Bool.false_and] at hv3
    have hv4 : v = false := hv3.out.symm
    subst hv4
    go_enter Tryd.func28, Tryd.ntmps28
    go_wp2_with (fail)
    refine (refsums_any _ 2 2 [x, z] (by decide) false hc _ hp).mono ?_
    rintro e w1 ⟨rfl, rfl⟩
    go_wp2_with (fail)
    go_ret
    exact ⟨rfl, hbA.out⟩
  | true =>
    rw [Bool.and_true] at hv3
    go_enter Tryd.func28, Tryd.ntmps28
    go_wp2_with (fail)
    refine (refsums_any _ 2 2 [x, z] (by decide) true hc _ hp).mono ?_
    rintro e w1 ⟨rfl, rfl⟩
    go_wp2_with (fail)
    refine (refsums_any a m cap P (by omega) b hb _ hR1).mono ?_
    rintro e w1 ⟨rfl, rfl⟩
    cases b with
    | false =>
      have hv4 : v = false := hv3.out.symm
      subst hv4
      go_wp2_with (fail)
      go_ret
      exact ⟨rfl, hbA.out⟩
    | true =>
    clear hb hc hp
    go_wp2_with (fail)
    refine (refup_rec a m cap P x hP hx hbig m i' n' r ok _ hu (by omega) (by omega) (by omega) (Nat.le_refl _) (hL.below hbA.out hL.two) hR1).mono ?_
    rintro e w1 ⟨rfl, hb1⟩
    have hb2 := hidIt (below_then hbA.out hb1)
    clear hb1 hbA hR1 hu
    cases ok with
    | false =>
      have hv4 : v = false := by rw [← hv3.out]; rfl
      subst hv4
      clear hv3
      go_wp2_with (fail)
      go_ret
      exact ⟨rfl, hb2.out⟩
    | true =>
      obtain ⟨q, hq⟩ : ∃ q, (r.toList == z.toList) = q := ⟨_, rfl⟩
      have hv4 : v = q := by rw [← hv3.out, hq]; rfl
      subst hv4
      clear hv3
      go_wp2_with (fail)
      go_ret
      exact ⟨rfl, hb2.out⟩
end Go.Proofs.YtgkomejckbccdaaDoor
