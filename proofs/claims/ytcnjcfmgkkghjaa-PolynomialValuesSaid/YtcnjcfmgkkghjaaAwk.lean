import Derived.Test.YtcnjcfmgkkghjaaDivU
namespace Go.Proofs.Ytcnjcfmgkkghjaa
open Go.RowKit
theorem two_lit (w : World) (bs ds : List Nat) (cs es : Array Value) (t : TypeId) (h : cs = (vals bs).toArray) (k : es = (vals ds).toArray) :
    Bytes ((w.alloc (.cells cs t)).alloc (.cells es t)) (some ⟨w.heap.size, 0, none⟩) bs ∧ Bytes ((w.alloc (.cells cs t)).alloc (.cells es t)) (some ⟨w.heap.size + 1, 0, none⟩) ds ∧ Below w.heap.size w ((w.alloc (.cells cs t)).alloc (.cells es t)) := by
  have e1 := bytes_lit w bs cs t h
  have e2 := bytes_lit (w.alloc (.cells cs t)) ds es t k
  have b1 : Below (w.alloc (.cells cs t)).heap.size (w.alloc (.cells cs t)) ((w.alloc (.cells cs t)).alloc (.cells es t)) := (Below.refl _ _).alloc (Nat.le_refl _) _
  rw [World.size_alloc] at e2
  exact ⟨e1.below b1, e2, ((Below.refl _ w).alloc (Nat.le_refl _) _).alloc (by simp) _⟩
theorem one_lit (w : World) (bs : List Nat) (cs : Array Value) (t : TypeId) (h : cs = (vals bs).toArray) : Bytes (w.alloc (.cells cs t)) (some ⟨w.heap.size, 0, none⟩) bs ∧ Below w.heap.size w (w.alloc (.cells cs t)) :=
  ⟨bytes_lit w bs cs t h, (Below.refl _ w).alloc (Nat.le_refl _) _⟩
theorem then_below {a b c : World} (h : Below a.heap.size a b) (k : Below b.heap.size b c) : Below a.heap.size a c := h.trans (k.mono h.size)
theorem same6b (a1 a2 : Option Addr) (n1 n2 c1 c2 : Nat) (xs ys : List Nat) (v : Bool) (hn : n1 = xs.length) (hm : n2 = ys.length) (hx : ∀ i, xs.getD i 0 < 256) (hy : ∀ i, ys.getD i 0 < 256) (hv : decide (xs = ys) = v) (w : World) (h1 : Bytes w a1 xs) (h2 : Bytes w a2 ys) :
    Calls Try.prog 15 #[.slice a1 n1 c1, .slice a2 n2 c2] w fun e w' => e = .returned (.bool v) ∧ Below w.heap.size w w' :=
  (same6_any a1 a2 n1 n2 c1 c2 xs ys v hn hm hx hy hv w h1 h2).mono fun _ _ ⟨h, k⟩ => ⟨h, k ▸ Below.refl _ _⟩
set_option maxRecDepth 100000 in
set_option maxHeartbeats 1000000 in
theorem awake6_any (w : World) : Calls Try.prog 9 #[] w fun e w' => e = .returned (.bool true) ∧ Below w.heap.size w w' := by
  go_enter Try.func9, Try.ntmps9
  go_wp2_with (fail)
  obtain ⟨p1, p2, be1⟩ := two_lit w [1, 1] [2, 1] #[.int .u8 1, .int .u8 1] #[.int .u8 2, .int .u8 1] 5 rfl rfl
  refine (mul2_any _ _ 2 2 2 2 [1, 1] [2, 1] rfl rfl (lt_all (by decide)) (lt_all (by decide)) (by decide) (by decide) (by decide +kernel) (by decide +kernel) (by decide +kernel) _ p1 p2).mono ?_
  rintro e w1 ⟨⟨v1, rfl, hm1⟩, hb1⟩
  rw [mul_ex] at hm1
  obtain ⟨g1, rfl, _, _, r1⟩ := hm1.at 3 rfl
  have be2 := hidIt (then_below be1 hb1)
  have r1' := hidIt r1
  clear p1 p2 be1 hb1 hm1 r1
  go_wp2_with (fail)
  obtain ⟨p1, p2, be3⟩ := two_lit w1 [0, 0, 1] [1, 1] #[.int .u8 0, .int .u8 0, .int .u8 1] #[.int .u8 1, .int .u8 1] 5 rfl rfl
  refine (divmod_any _ _ 3 2 3 2 [0, 0, 1] [1, 1] rfl rfl (lt_all (by decide)) (lt_all (by decide)) (by decide) (by decide) (by decide +kernel) _ p1 p2).mono ?_
  rintro e w2 ⟨⟨v2, u2, qs, rs, rfl, hm2, hm3, hdv⟩, hb2⟩
  obtain ⟨rfl, rfl⟩ := divOk_unique (lt_all (by decide)) (by decide +kernel) hdv div_ex
  obtain ⟨g2, rfl, _, _, r2⟩ := hm2.at 2 rfl
  obtain ⟨g3, rfl, _, _, r3⟩ := hm3.at 1 rfl
  have be4 := then_below be3 hb2
  have r1'' := hidIt (r1'.out.below be4)
  have be5 := hidIt (then_below be2.out be4)
  have r2' := hidIt r2
  have r3' := hidIt r3
  clear p1 p2 be3 hb2 hm2 hm3 r2 r3 be4 hdv r1' be2
  go_wp2_with (fail)
  obtain ⟨p1, p2, be3⟩ := two_lit w2 [0, 1] [2, 0] #[.int .u8 0, .int .u8 1] #[.int .u8 2, .int .u8 0] 5 rfl rfl
  refine (interp_any _ _ 2 2 2 [0, 1] [2, 0] rfl rfl (lt_all (by decide)) (lt_all (by decide)) (by decide) ip_ex0 _ p1 p2).mono ?_
  rintro e w3 ⟨⟨a4, m4, c4, rfl, hm4, r4⟩, hb3⟩
  rw [ip_ex] at hm4 r4
  have be4 := then_below be3 hb3
  have r1' := hidIt (r1''.out.below be4)
  have r2'' := hidIt (r2'.out.below be4)
  have r3'' := hidIt (r3'.out.below be4)
  have be6 := hidIt (then_below be5.out be4)
  have r4' := hidIt r4
  have hm4' := hidIt hm4
  clear p1 p2 be3 hb3 r4 be4 r1'' r2' r3' be5 hm4
  go_wp2_with (fail)
  obtain ⟨p1, be3⟩ := one_lit w3 [2, 3, 1] #[.int .u8 2, .int .u8 3, .int .u8 1] 5 rfl
  refine (roots_any _ 3 3 [2, 3, 1] rfl (lt_all (by decide)) (by decide) (by decide +kernel) _ p1).mono ?_
  rintro e w4 ⟨⟨a5, m5, c5, rfl, hm5, r5⟩, hb3⟩
  rw [roots_ex] at hm5 r5
  have be4 := then_below be3 hb3
  have r1'' := hidIt (r1'.out.below be4)
  have r2' := hidIt (r2''.out.below be4)
  have r3' := hidIt (r3''.out.below be4)
  have r4'' := hidIt (r4'.out.below be4)
  have be7 := hidIt (then_below be6.out be4)
  have r5' := hidIt r5
  have hm5' := hidIt hm5
  clear p1 be3 hb3 r5 be4 r1' r2'' r3'' r4' be6 hm5
  go_wp2_with (fail)
  obtain ⟨p1, be3⟩ := one_lit w4 [1] #[.int .u8 1] 5 rfl
  refine (divz_any _ none 1 0 1 0 [] rfl (fun i => by simp) (by decide) rfl _ (fun i hi => absurd hi (Nat.not_lt_zero _))).mono ?_
  rintro e w5 ⟨rfl, hb3⟩
  have be4 := then_below be3 hb3
  have r1' := hidIt (r1''.out.below be4)
  have r2'' := hidIt (r2'.out.below be4)
  have r3'' := hidIt (r3'.out.below be4)
  have r4' := hidIt (r4''.out.below be4)
  have r5'' := hidIt (r5'.out.below be4)
  have be8 := hidIt (then_below be7.out be4)
  clear p1 be3 hb3 be4 r1'' r2' r3' r4'' be7 r5'
  go_wp2_with (fail)
  obtain ⟨p1, be3⟩ := one_lit w5 [2, 3, 1] #[.int .u8 2, .int .u8 3, .int .u8 1] 5 rfl
  refine (same6b _ _ _ 3 _ 3 [2, 3, 1] [2, 3, 1] true rfl rfl (lt_all (by decide)) (lt_all (by decide)) (by decide) _ (r1'.out.below be3) p1).mono ?_
  rintro e x0 ⟨rfl, hb3⟩
  have be4 := then_below be3 hb3
  have q10 := hidIt (r2''.out.below be4)
  have q20 := hidIt (r3''.out.below be4)
  have q30 := hidIt (r4'.out.below be4)
  have q40 := hidIt (r5''.out.below be4)
  have be9 := hidIt (then_below be8.out be4)
  clear p1 be3 hb3 be4 be8 r1' r2'' r3'' r4' r5''
  go_wp2_with (fail)
  obtain ⟨p1, be3⟩ := one_lit x0 [1, 1] #[.int .u8 1, .int .u8 1] 5 rfl
  refine (same6b _ _ _ 2 _ 2 [1, 1] [1, 1] true rfl rfl (lt_all (by decide)) (lt_all (by decide)) (by decide) _ (q10.out.below be3) p1).mono ?_
  rintro e x1 ⟨rfl, hb3⟩
  have be4 := then_below be3 hb3
  have q21 := hidIt (q20.out.below be4)
  have q31 := hidIt (q30.out.below be4)
  have q41 := hidIt (q40.out.below be4)
  have be10 := hidIt (then_below be9.out be4)
  clear p1 be3 hb3 be4 be9 q10 q20 q30 q40
  go_wp2_with (fail)
  obtain ⟨p1, be3⟩ := one_lit x1 [1] #[.int .u8 1] 5 rfl
  refine (same6b _ _ _ 1 _ 1 [1] [1] true rfl rfl (lt_all (by decide)) (lt_all (by decide)) (by decide) _ (q21.out.below be3) p1).mono ?_
  rintro e x2 ⟨rfl, hb3⟩
  have be4 := then_below be3 hb3
  have q32 := hidIt (q31.out.below be4)
  have q42 := hidIt (q41.out.below be4)
  have be11 := hidIt (then_below be10.out be4)
  clear p1 be3 hb3 be4 be10 q21 q31 q41
  go_wp2_with (fail)
  obtain ⟨p1, be3⟩ := one_lit x2 [2, 2] #[.int .u8 2, .int .u8 2] 5 rfl
  refine (same6b _ _ _ 2 _ 2 [2, 2] [2, 2] true hm4'.out rfl (lt_all (by decide)) (lt_all (by decide)) (by decide) _ (q32.out.below be3) p1).mono ?_
  rintro e x3 ⟨rfl, hb3⟩
  have be4 := then_below be3 hb3
  have q43 := hidIt (q42.out.below be4)
  have be12 := hidIt (then_below be11.out be4)
  clear p1 be3 hb3 be4 be11 q32 q42
  go_wp2_with (fail)
  obtain ⟨p1, be3⟩ := one_lit x3 [1, 2] #[.int .u8 1, .int .u8 2] 5 rfl
  refine (same6b _ _ _ 2 _ 2 [1, 2] [1, 2] true hm5'.out rfl (lt_all (by decide)) (lt_all (by decide)) (by decide) _ (q43.out.below be3) p1).mono ?_
  rintro e x4 ⟨rfl, hb3⟩
  have be4 := then_below be3 hb3
  have be13 := hidIt (then_below be12.out be4)
  clear p1 be3 hb3 be4 be12 q43
  go_wp2_with (fail)
  go_ret
  exact ⟨rfl, be13.out⟩
end Go.Proofs.Ytcnjcfmgkkghjaa
