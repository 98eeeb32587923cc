import Derived.Test.YtneiglhcfgnclaaDoorRo3
namespace Go.Proofs.YtneiglhcfgnclaaDoor
open Go.RowKit
set_option maxRecDepth 100000 in
theorem new_any (s : Nat) (n : Int) (w : World) :
    Calls Tryd.prog 16 #[.int .u64 s, .int .i64 n] w fun e w' => ∃ g, e = .returned (.pointer (some ⟨g, 0, none⟩)) ∧ w.heap.size ≤ g ∧ RS w' g (Rh.num s) (wnd n) [] ∧ Below w.heap.size w w' := by
  obtain ⟨m, hm⟩ : ∃ m, wnd n = m := ⟨_, rfl⟩
  have hm1 := (wnd_ok n).1
  have hm2 := (wnd_ok n).2
  rw [hm] at hm1 hm2
  obtain ⟨mi, hmi⟩ : ∃ mi : Int, (m : Int) = mi := ⟨_, rfl⟩
  obtain ⟨V, hV⟩ : ∃ V, tabV s = V := ⟨_, rfl⟩
  obtain ⟨cs, hcs, hd⟩ : ∃ cs, Hid (Tryd.prog.built 52 [(0, .agg V), (1, .int .i64 mi)] = some cs) ∧ Hid (∀ W : World, RS (W.alloc (.cells cs 52)) W.heap.size (Rh.num s) m []) :=
    ⟨_, by rw [← hV, ← hmi]; exact builtRoll (Rh.num s) m, fun W => new_rs W s m hm1 hm2⟩
  have ht : Hid (∀ W, Calls Tryd.prog 27 #[.int .u64 s] W fun e w' => e = .returned (.agg V) ∧ Below W.heap.size W w') := by rw [← hV]; exact fun W => table_any s W
  rw [hm]
  clear hV
  by_cases h1 : n < 1
  · have e : mi = 1 := by rw [← hmi, ← hm]; unfold wnd; rw [if_pos h1]; rfl
    subst e
    have e1 : ¬ (n > 1) := by omega
    clear hm hmi hm1 hm2
    go_enter Tryd.func16, Tryd.ntmps16
    go_wp2_with (fail)
    refine (ht.out _).mono ?_
    rintro e w1 ⟨rfl, hb1⟩
    go_wp2_with (first | (refine wpList_build_is rfl 52 _ rfl cs ?hb ?_))
    case hb => exact hcs.out
    go_ret
    exact ⟨_, rfl, hb1.size, hd.out w1, hb1.alloc hb1.size _⟩
  · by_cases h2 : 64 < n
    · have e : mi = 64 := by rw [← hmi, ← hm]; unfold wnd; rw [if_neg h1, if_pos h2]; rfl
      subst e
      have e1 : n > 1 := by omega
      have e2 : ¬ n < 64 := by omega
      clear hm hmi hm1 hm2
      go_enter Tryd.func16, Tryd.ntmps16
      go_wp2_with (fail)
      refine (ht.out _).mono ?_
      rintro e w1 ⟨rfl, hb1⟩
      go_wp2_with (first | (refine wpList_build_is rfl 52 _ rfl cs ?hb ?_))
      case hb => exact hcs.out
      go_ret
      exact ⟨_, rfl, hb1.size, hd.out w1, hb1.alloc hb1.size _⟩
    · have e : mi = n := by rw [← hmi, ← hm]; unfold wnd; rw [if_neg h1, if_neg h2]; omega
      subst e
      by_cases h3 : mi = 1
      · subst h3
        clear hm hmi hm1 hm2
        go_enter Tryd.func16, Tryd.ntmps16
        go_wp2_with (fail)
        refine (ht.out _).mono ?_
        rintro e w1 ⟨rfl, hb1⟩
        go_wp2_with (first | (refine wpList_build_is rfl 52 _ rfl cs ?hb ?_))
        case hb => exact hcs.out
        go_ret
        exact ⟨_, rfl, hb1.size, hd.out w1, hb1.alloc hb1.size _⟩
      · by_cases h4 : mi = 64
        · subst h4
          clear hm hmi hm1 hm2
          go_enter Tryd.func16, Tryd.ntmps16
          go_wp2_with (fail)
          refine (ht.out _).mono ?_
          rintro e w1 ⟨rfl, hb1⟩
          go_wp2_with (first | (refine wpList_build_is rfl 52 _ rfl cs ?hb ?_))
          case hb => exact hcs.out
          go_ret
          exact ⟨_, rfl, hb1.size, hd.out w1, hb1.alloc hb1.size _⟩
        · have e1 : mi > 1 := by omega
          have e2 : mi < 64 := by omega
          clear hm hmi hm1 hm2
          go_enter Tryd.func16, Tryd.ntmps16
          go_wp2_with (fail)
          refine (ht.out _).mono ?_
          rintro e w1 ⟨rfl, hb1⟩
          go_wp2_with (first | (refine wpList_build_is rfl 52 _ rfl cs ?hb ?_))
          case hb => exact hcs.out
          go_ret
          exact ⟨_, rfl, hb1.size, hd.out w1, hb1.alloc hb1.size _⟩
end Go.Proofs.YtneiglhcfgnclaaDoor
