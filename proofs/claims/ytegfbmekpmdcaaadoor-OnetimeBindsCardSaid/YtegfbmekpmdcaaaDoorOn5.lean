import Derived.Test.YtegfbmekpmdcaaaDoorOn4
namespace Go.Proofs.YtegfbmekpmdcaaaDoor
open Go.RowKit
set_option maxRecDepth 100000 in
theorem digits_no (b s : Int) (dig : ByteArray) (h : okZ b s = false ∨ ¬ (dig.size : Int) = s) (w : World) :
    Calls Tryd.prog 14 #[.agg #[.int .i64 b, .int .i64 s], .string dig] w fun e w' => e = .returned (.tuple #[.slice none 0 0, .int .i64 1]) ∧ Below w.heap.size w w' := by
  have p0 : PS w w.heap.size b s (w.alloc (.cells #[.int .i64 b, .int .i64 s] 25)) := ps_new _ _ _ _
  by_cases ho : okZ b s = true
  · have hne : ¬ (dig.size : Int) = s := by rcases h with h | h; (rw [h] at ho; cases ho); exact h
    obtain ⟨b', s', rfl, rfl, ho'⟩ := okZ_of ho
    clear h ho
    go_enter Tryd.func14, Tryd.ntmps14
    go_wp2_with (fail)
    refine (valid_ok b' s' ho' _).mono ?_
    rintro e w2 ⟨rfl, hb2⟩
    have p2 := p0.next hb2
    have HB := hidIt p2.bel
    have e1 := p2.c1
    clear hb2 p0 p2
    go_wp2_with (fail)
    go_ret2
    exact ⟨rfl, HB.out⟩
  · have ho2 : okZ b s = false := by simpa using ho
    clear h ho
    go_enter Tryd.func14, Tryd.ntmps14
    go_wp2_with (fail)
    refine (valid_no b s ho2 _).mono ?_
    rintro e w2 ⟨rfl, hb2⟩
    have p2 := p0.next hb2
    have HB := hidIt p2.bel
    have e1 := p2.c1
    clear hb2 p0 p2
    go_wp2_with (fail)
    go_ret2
    exact ⟨rfl, HB.out⟩
set_option maxRecDepth 100000 in
theorem covers_ok (b s : Nat) (ho : Ot.okB b s = true) (x y : ByteArray) (xs ys : List Nat) (hx : Hid (ofStr x = xs)) (hy : Hid (ofStr y = ys)) (hxs : (x.size : Int) = (s : Int)) (hys : (y.size : Int) = (s : Int)) (cv : Bool) (hcv : Hid (cv = true ↔ ∀ i, i < Ot.tot b s → Ot.dgs b s xs i ≤ Ot.dgs b s ys i)) (w : World) :
    Calls Tryd.prog 15 #[.agg #[.int .i64 (b : Int), .int .i64 (s : Int)], .string x, .string y] w fun e w' => e = .returned (.tuple #[.bool cv, .int .i64 0]) ∧ Below w.heap.size w w' := by
  have p0 : PS w w.heap.size (b : Int) (s : Int) (w.alloc (.cells #[.int .i64 (b : Int), .int .i64 (s : Int)] 25)) := ps_new _ _ _ _
  have hn2 := (Ot.tot_bd b s ho).2
  have dx : Hid (∀ W, Calls Tryd.prog 14 #[.agg #[.int .i64 (b : Int), .int .i64 (s : Int)], .string x] W fun e w' => DigOk W e w' (Ot.dgs b s xs) (Ot.tot b s) ∧ Below W.heap.size W w') := fun W => digits_ok b s ho x xs hx hxs W
  have dy : Hid (∀ W, Calls Tryd.prog 14 #[.agg #[.int .i64 (b : Int), .int .i64 (s : Int)], .string y] W fun e w' => DigOk W e w' (Ot.dgs b s ys) (Ot.tot b s) ∧ Below W.heap.size W w') := fun W => digits_ok b s ho y ys hy hys W
  obtain ⟨n, hn⟩ : ∃ n, Hid (Ot.tot b s = n) := ⟨_, rfl⟩
  obtain ⟨F, hF⟩ : ∃ F, Hid (Ot.dgs b s xs = F) := ⟨_, rfl⟩
  obtain ⟨H, hH⟩ : ∃ H, Hid (Ot.dgs b s ys = H) := ⟨_, rfl⟩
  rw [hn.out, hF.out] at dx
  rw [hn.out, hH.out] at dy
  rw [hn.out, hF.out, hH.out] at hcv
  rw [hn.out] at hn2
  clear ho hx hy hxs hys hn hF hH
  go_enter Tryd.func15, Tryd.ntmps15
  go_wp2_with (fail)
  refine (dx.out _).mono ?_
  rintro e w2 ⟨⟨g, hg, rfl, hB⟩, hb2⟩
  have p2 := p0.next hb2
  have e0 := p2.c0
  have e1 := p2.c1
  clear hb2 p0
  go_wp2_with (fail)
  refine (dy.out _).mono ?_
  rintro e w3 ⟨⟨g', hg', rfl, hB'⟩, hb3⟩
  have HB := hidIt (p2.next hb3).bel
  have hA := hB.below hb3 hB.lt
  clear hb3 p2 e0 e1 dx dy hB
  go_wp2_with (fail)
  go_loop [33] (fun i => ∃ k : Nat, i = .int .i64 (k : Int) ∧ k ≤ n ∧ Hid (∀ j, j < k → F j ≤ H j)) (fun i => n - (intOf i).toNat)
  case atStart => exact ⟨0, rfl, by omega, fun j hj => by omega⟩
  case round =>
    obtain ⟨k, rfl, hk, hal⟩ := hrel
    by_cases hlt : k < n
    · obtain ⟨u, hu⟩ : ∃ u, Hid (F k = u) := ⟨_, rfl⟩
      obtain ⟨v, hv⟩ : ∃ v, Hid (H k = v) := ⟨_, rfl⟩
      have c0 : w3.cell? ⟨g, k, none⟩ = some (.int .i64 (u : Int)) := by rw [hA.cell, rowA_all _ _ _ _ hlt, hu.out]
      have c1 : w3.cell? ⟨g', k, none⟩ = some (.int .i64 (v : Int)) := by rw [hB'.cell, rowA_all _ _ _ _ hlt, hv.out]
      have hA2 := hidIt hA
      have hB2 := hidIt hB'
      clear hA hB'
      by_cases huv : u ≤ v
      · have hal2 : Hid (∀ j, j < k + 1 → F j ≤ H j) := fun j hj => by
          by_cases h : j = k
          · subst h; rw [hu.out, hv.out]; exact huv
          · exact hal.out j (by omega)
        clear hal hu hv
        go_wp2
        go_round
        case rel => exact ⟨k + 1, by go_num, by omega, hal2⟩
        case measure => simp [intOf]; omega
      · have hc : Hid (cv = false) := by
          show _ = _
          rw [Bool.eq_false_iff]
          intro h
          have := hcv.out.1 h k hlt
          rw [hu.out, hv.out] at this
          exact huv this
        clear hal hu hv hcv
        go_wp2
        go_ret2
        exact ⟨by rw [hc.out]; rfl, HB.out⟩
    · have hc : Hid (cv = true) := hcv.out.2 fun i hi => hal.out i (by omega)
      clear hal hcv hA hB'
      go_wp2
      go_ret2
      exact ⟨by rw [hc.out]; rfl, HB.out⟩
set_option maxRecDepth 100000 in
theorem covers_no1 (b s : Int) (x y : ByteArray) (h : okZ b s = false ∨ ¬ (x.size : Int) = s) (w : World) :
    Calls Tryd.prog 15 #[.agg #[.int .i64 b, .int .i64 s], .string x, .string y] w fun e w' => e = .returned (.tuple #[.bool false, .int .i64 1]) ∧ Below w.heap.size w w' := by
  have p0 : PS w w.heap.size b s (w.alloc (.cells #[.int .i64 b, .int .i64 s] 25)) := ps_new _ _ _ _
  have h2 := hidIt h
  clear h
  go_enter Tryd.func15, Tryd.ntmps15
  go_wp2_with (fail)
  refine (digits_no b s x h2.out _).mono ?_
  rintro e w2 ⟨rfl, hb2⟩
  have HB := hidIt (p0.next hb2).bel
  clear hb2 p0
  go_wp2_with (fail)
  go_ret2
  exact ⟨rfl, HB.out⟩
set_option maxRecDepth 100000 in
theorem covers_no2 (b s : Nat) (ho : Ot.okB b s = true) (x y : ByteArray) (xs : List Nat) (hx : Hid (ofStr x = xs)) (hxs : (x.size : Int) = (s : Int)) (hys : ¬ (y.size : Int) = (s : Int)) (w : World) :
    Calls Tryd.prog 15 #[.agg #[.int .i64 (b : Int), .int .i64 (s : Int)], .string x, .string y] w fun e w' => e = .returned (.tuple #[.bool false, .int .i64 1]) ∧ Below w.heap.size w w' := by
  have p0 : PS w w.heap.size (b : Int) (s : Int) (w.alloc (.cells #[.int .i64 (b : Int), .int .i64 (s : Int)] 25)) := ps_new _ _ _ _
  have dx : Hid (∀ W, Calls Tryd.prog 14 #[.agg #[.int .i64 (b : Int), .int .i64 (s : Int)], .string x] W fun e w' => DigOk W e w' (Ot.dgs b s xs) (Ot.tot b s) ∧ Below W.heap.size W w') := fun W => digits_ok b s ho x xs hx hxs W
  have dy : Hid (∀ W, Calls Tryd.prog 14 #[.agg #[.int .i64 (b : Int), .int .i64 (s : Int)], .string y] W fun e w' => e = .returned (.tuple #[.slice none 0 0, .int .i64 1]) ∧ Below W.heap.size W w') := fun W => digits_no (b : Int) (s : Int) y (.inr hys) W
  clear hx hxs hys ho
  go_enter Tryd.func15, Tryd.ntmps15
  go_wp2_with (fail)
  refine (dx.out _).mono ?_
  rintro e w2 ⟨⟨g, hg, rfl, hB⟩, hb2⟩
  have p2 := p0.next hb2
  have e0 := p2.c0
  have e1 := p2.c1
  clear hb2 p0 hB hg
  go_wp2_with (fail)
  refine (dy.out _).mono ?_
  rintro e w3 ⟨rfl, hb3⟩
  have HB := hidIt (p2.next hb3).bel
  clear hb3 p2 e0 e1
  go_wp2_with (fail)
  go_ret2
  exact ⟨rfl, HB.out⟩
end Go.Proofs.YtegfbmekpmdcaaaDoor
