import Derived.Test.YtegfbmekpmdcaaaDoorOn11
namespace Go.Proofs.YtegfbmekpmdcaaaDoor
open Go.RowKit
set_option maxRecDepth 100000 in
theorem public_no (b s : Int) (sd : ByteArray) (h : okZ b s = false ∨ ¬ (sd.size : Int) = 32) (w : World) :
    Calls Tryd.prog 28 #[.agg #[.int .i64 b, .int .i64 s], .string sd] w fun e w' => e = .returned (.tuple #[.string ⟨#[]⟩, .int .i64 1]) ∧ Below w.heap.size w w' := by
  have hB1 : Below w.heap.size w ((w.alloc (.cells #[.int .i64 b, .int .i64 s] 25)).alloc (.cells #[.string sd] 9)) := ((Below.refl _ _).alloc (Nat.le_refl _) _).alloc (by simp) _
  by_cases ho : okZ b s = true
  · have hne : ¬ (sd.size : Int) = 32 := by rcases h with h | h; (rw [h] at ho; cases ho); exact h
    obtain ⟨b', s', rfl, rfl, ho'⟩ := okZ_of ho
    have c0 : ((w.alloc (.cells #[.int .i64 (b' : Int), .int .i64 (s' : Int)] 25)).alloc (.cells #[.string sd] 9)).cell? ⟨w.heap.size + 1, 0, none⟩ = some (.string sd) := by
      have := cell_of_row _ _ 0 _ _ _ (heap_alloc_new (w.alloc (.cells #[.int .i64 (b' : Int), .int .i64 (s' : Int)] 25)) (.cells #[.string sd] 9))
      rw [World.size_alloc] at this
      rw [this]; rfl
    obtain ⟨w1, hw1⟩ : ∃ w1, Hid ((w.alloc (.cells #[.int .i64 (b' : Int), .int .i64 (s' : Int)] 25)).alloc (.cells #[.string sd] 9) = w1) := ⟨_, rfl⟩
    have h1 := hidIt hB1
    have c1 := hidIt c0
    rw [hw1.out] at c1
    clear h ho hB1 c0
    go_enter Tryd.func28, Tryd.ntmps28
    go_wp2_with (fail)
    rw [hw1.out]
    refine (valid_ok b' s' ho' _).mono ?_
    rintro e w2 ⟨rfl, hb2⟩
    rw [hw1.out] at h1
    have HB := hidIt (below_then h1.out hb2)
    have c2 : w2.cell? ⟨w.heap.size + 1, 0, none⟩ = some (.string sd) := (hb2.cell (p := ⟨w.heap.size + 1, 0, none⟩) (bytes_lt c1.out)).trans c1.out
    clear hb2 hw1
    go_wp2_with (fail)
    go_ret2
    exact ⟨rfl, HB.out⟩
  · have ho2 : okZ b s = false := by simpa using ho
    have h1 := hidIt hB1
    clear h ho hB1
    go_enter Tryd.func28, Tryd.ntmps28
    go_wp2_with (fail)
    refine (valid_no b s ho2 _).mono ?_
    rintro e w2 ⟨rfl, hb2⟩
    have HB := hidIt (below_then h1.out hb2)
    clear hb2
    go_wp2_with (fail)
    go_ret2
    exact ⟨rfl, HB.out⟩
def seed0 : ByteArray := ⟨#[48, 49, 50, 51, 52, 53, 54, 55, 56, 57, 97, 98, 99, 100, 101, 102, 48, 49, 50, 51, 52, 53, 54, 55, 56, 57, 97, 98, 99, 100, 101, 102]⟩
def fourF (i : Nat) : Nat := [3, 12, 0, 15].getD i 0
theorem four_ints (w : World) : Ints (w.alloc (.cells #[.int .i64 3, .int .i64 12, .int .i64 0, .int .i64 15] 3)) (some ⟨w.heap.size, 0, none⟩) 4 fourF := by
  intro i hi
  refine ⟨_, 0, rfl, ?_⟩
  rw [cell_of_row _ _ _ _ _ _ (heap_alloc_new w _)]
  have : i = 0 ∨ i = 1 ∨ i = 2 ∨ i = 3 := by omega
  rcases this with rfl | rfl | rfl | rfl <;> rfl
set_option maxRecDepth 100000 in
set_option maxHeartbeats 2000000 in
theorem awake_any (w : World) (hL : LaidH w) :
    Calls Tryd.prog 12 #[] w fun e w' => e = .returned (.bool true) ∧ Below w.heap.size w w' := by
  have ht : Ot.tot 4 1 = 4 := by decide +kernel
  obtain ⟨F, hF⟩ : ∃ F, Hid (Ot.dgs 4 1 (ofStr ⟨#[60]⟩) = F) := ⟨_, rfl⟩
  have hF4 : Hid (∀ i, i < 4 → F i = fourF i) := by rw [← hF.out]; exact (by decide +kernel : ∀ i, i < 4 → Ot.dgs 4 1 (ofStr ⟨#[60]⟩) i = fourF i)
  have d1 : Hid (∀ W, Calls Tryd.prog 14 #[.agg #[.int .i64 4, .int .i64 1], .string ⟨#[60]⟩] W fun e w' => DigOk W e w' F 4 ∧ Below W.heap.size W w') := fun W => by
    have := digits_ok 4 1 (by decide) ⟨#[60]⟩ _ (hidIt rfl) rfl W
    rwa [ht, hF.out] at this
  have d2 : Hid (∀ W, Calls Tryd.prog 15 #[.agg #[.int .i64 4, .int .i64 1], .string ⟨#[60]⟩, .string ⟨#[61]⟩] W fun e w' => e = .returned (.tuple #[.bool false, .int .i64 0]) ∧ Below W.heap.size W w') := fun W =>
    covers_ok 4 1 (by decide) ⟨#[60]⟩ ⟨#[61]⟩ _ _ (hidIt rfl) (hidIt rfl) rfl rfl false (hidIt (by decide +kernel)) W
  have d3 : Hid (∀ W, LaidH W → Calls Tryd.prog 24 #[.int .i64 0, .int .i64 5, .int .i64 5, .string seed0] W fun e w' => e = .returned (.tuple #[.string seed0, .int .i64 0]) ∧ Below W.heap.size W w') := fun W hW => chain_ok 0 5 5 (by omega) (by omega) (by omega) seed0 rfl W hW
  obtain ⟨ks, hks⟩ : ∃ ks, Hid (ofStr seed0 = ks) := ⟨_, rfl⟩
  obtain ⟨K, hK⟩ : ∃ K, Hid (Ot.pub 4 1 ks = K) := ⟨_, rfl⟩
  have d4 : Hid (∀ W, LaidH W → Calls Tryd.prog 28 #[.agg #[.int .i64 4, .int .i64 1], .string seed0] W fun e w' => e = .returned (.tuple #[.string K, .int .i64 0]) ∧ Below W.heap.size W w') := fun W hW => hK.out ▸ public_ok 4 1 (by decide) seed0 ks hks rfl W hW
  obtain ⟨P, hP⟩ : ∃ P : Nat → ByteArray, Hid ((fun i => Ot.vl ks i (F i)) = P) := ⟨_, rfl⟩
  have d5 : Hid (∀ W, LaidH W → Calls Tryd.prog 29 #[.agg #[.int .i64 4, .int .i64 1], .string seed0, .string ⟨#[60]⟩] W fun e w' => SigOk W e w' P 4 ∧ Below W.heap.size W w') := fun W hW => by
    have := sign_ok 4 1 (by decide) seed0 ks hks rfl ⟨#[60]⟩ _ (hidIt rfl) rfl W hW
    rwa [ht, hF.out, hP.out] at this
  have hPi : ∀ i, P i = Ot.vl ks i (F i) := fun i => by rw [← hP.out]
  have hrc : Hid (true = true ↔ Ot.rcv 4 1 (Ot.dgs 4 1 (ofStr ⟨#[60]⟩)) ((List.range 4).map P) = K) := by
    show _ ↔ _
    rw [← hK.out, Ot.rcv_signed 4 1 _ (Ot.dgs_le 4 1 _) ks _ (fun i hi => by
      rw [ht] at hi
      rw [List.getD_eq_getElem?_getD, List.getElem?_map, List.getElem?_range hi]
      show P i = _
      rw [hPi, hF.out])]
    simp
  have d6 : Hid (∀ W a, LaidH W → Strs W a ((List.range 4).map P) → Calls Tryd.prog 34 #[.agg #[.int .i64 4, .int .i64 1], .string K, .string ⟨#[60]⟩, .slice a 4 4] W fun e w' => e = .returned (.bool true) ∧ Below W.heap.size W w') := fun W a hW hS =>
    verify_ok 4 1 (by decide) ⟨#[60]⟩ _ (hidIt rfl) rfl a 4 4 _ (by simp) (hidIt (by rw [ht]; simp)) (hidIt (fun i hi => by
      have hi4 : i < 4 := by simpa using hi
      rw [List.getD_eq_getElem?_getD, List.getElem?_map, List.getElem?_range hi4]
      show (P i).size = 32
      rw [hPi]; exact Ot.vl_size _ _ _)) K true hrc W hW hS
  have d7 : Hid (∀ W, Calls Tryd.prog 18 #[.agg #[.int .i64 8, .int .i64 32]] W fun e w' => e = .returned (.int .i64 34) ∧ Below W.heap.size W w') := fun W => by
    have := chains_ok 8 32 (by decide) W
    have h34 : Ot.tot 8 32 = 34 := by decide +kernel
    rwa [h34] at this
  have d8 : Hid (∀ W g g', Ints W (some ⟨g, 0, none⟩) 4 F → Ints W (some ⟨g', 0, none⟩) 4 fourF → Calls Tryd.prog 22 #[.slice (some ⟨g, 0, none⟩) 4 4, .slice (some ⟨g', 0, none⟩) 4 4] W fun e w' => e = .returned (.bool true) ∧ Below W.heap.size W w') := fun W g g' h1 h2 =>
    same_any _ _ 4 4 4 4 F fourF (by omega) (by omega) true (hidIt ⟨fun _ => ⟨rfl, hF4.out⟩, fun _ => rfl⟩) W h1 h2
  have p0 : PS w w.heap.size 4 1 (w.alloc (.cells #[.int .i64 4, .int .i64 1] 25)) := ps_new _ _ _ _
  have ts : (seed0.toList == seed0.toList) = true := by simp
  have hsd : (⟨#[48, 49, 50, 51, 52, 53, 54, 55, 56, 57, 97, 98, 99, 100, 101, 102, 48, 49, 50, 51, 52, 53, 54, 55, 56, 57, 97, 98, 99, 100, 101, 102]⟩ : ByteArray) = seed0 := rfl
  clear hPi hrc hP hK hks hF4 hF ht
  go_enter Tryd.func12, Tryd.ntmps12
  go_wp2_with (fail)
  refine (d1.out _).mono ?_
  rintro e w1 ⟨⟨g, hg, rfl, hB⟩, hb1⟩
  have p1 := p0.next hb1
  obtain ⟨G, hG⟩ : ∃ G, Hid (w.heap.size = G) := ⟨_, rfl⟩
  have hI1 := hidIt (ints_row hB)
  rw [hG.out] at p1
  try rw [hG.out]
  have e0 := p1.c0
  have e1 := p1.c1
  clear hb1 hB p0 hg
  go_wp2_with (fail)
  refine (d2.out _).mono ?_
  rintro e w2 ⟨rfl, hb2⟩
  have p2 := p1.next hb2
  have hI2 := hidIt (hI1.out.below hb2)
  clear hb2 hI1 p1 e0 e1
  have L2 := hL.below p2.bel hL.two
  have e0 := p2.c0
  have e1 := p2.c1
  go_wp2_with (fail)
  refine (d3.out _ L2).mono ?_
  rintro e w3 ⟨rfl, hb3⟩
  have p3 := p2.next hb3
  have hI3 := hidIt (hI2.out.below hb3)
  clear hb3 hI2 p2 e0 e1 L2
  have L3 := hL.below p3.bel hL.two
  have e0 := p3.c0
  have e1 := p3.c1
  go_wp2_with (fail)
  refine (d4.out _ L3).mono ?_
  rintro e w4 ⟨rfl, hb4⟩
  have p4 := p3.next hb4
  have hI4 := hidIt (hI3.out.below hb4)
  clear hb4 hI3 p3 e0 e1 L3
  have L4 := hL.below p4.bel hL.two
  have e0 := p4.c0
  have e1 := p4.c1
  go_wp2_with (fail)
  refine (d5.out _ L4).mono ?_
  rintro e w5 ⟨⟨gs, hgs, rfl, hS5⟩, hb5⟩
  have p5 := p4.next hb5
  have hI5 := hidIt (hI4.out.below hb5)
  have hS5' := hidIt hS5
  clear hb5 hI4 p4 e0 e1 L4 hgs hS5
  have e0 := p5.c0
  have e1 := p5.c1
  go_wp2_with (fail)
  have hbA : Below w5.heap.size w5 (w5.alloc (.cells #[.int .i64 3, .int .i64 12, .int .i64 0, .int .i64 15] 3)) := (Below.refl _ _).alloc (Nat.le_refl _) _
  have p6 := p5.next hbA
  have hS6 := hidIt (hS5'.out.below hbA)
  refine (d8.out _ g _ (hI5.out.below hbA) (four_ints w5)).mono ?_
  rintro e w6 ⟨rfl, hb6⟩
  have p7 := p6.next hb6
  have hS7 := hidIt (hS6.out.below hb6)
  clear hb6 hbA p5 p6 e0 e1 hS6 hS5' hI5
  have L7 := hL.below p7.bel hL.two
  have e0 := p7.c0
  have e1 := p7.c1
  go_wp2_with (fail)
  refine (d6.out _ _ L7 hS7.out).mono ?_
  rintro e w8 ⟨rfl, hb8⟩
  have p8 := hidIt (p7.next hb8).bel
  clear hb8 p7 hS7 L7 e0 e1
  go_wp2_with (fail)
  refine (d7.out _).mono ?_
  rintro e w9 ⟨rfl, hb9⟩
  have HB := hidIt (below_then p8.out hb9)
  clear hb9
  go_wp2_with (fail)
  go_ret
  exact ⟨rfl, HB.out⟩
end Go.Proofs.YtegfbmekpmdcaaaDoor
