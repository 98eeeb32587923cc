import Derived.Test.YtegfbmekpmdcaaaDoorOn12
namespace Go.Proofs.YtegfbmekpmdcaaaDoor
open Go.RowKit
theorem rs_new (w : World) (b s : Int) : PS w w.heap.size b s (w.alloc (.cells #[.int .i64 b, .int .i64 s] 23)) := ps_new _ _ _ _
set_option maxRecDepth 100000 in
set_option maxHeartbeats 2000000 in
theorem refvalid_t (b s : Int) (h : okZ b s = true) (w : World) :
    Calls Tryd.prog 16 #[.agg #[.int .i64 b, .int .i64 s]] w fun e w' => e = .returned (.bool true) ∧ Below w.heap.size w w' := by
  obtain ⟨hb, h1, h2⟩ := (okZ_iff b s).1 h
  have p0 := rs_new w b s
  have HB := hidIt p0.bel
  have e0 := p0.c0
  have e1 := p0.c1
  have k1 : decide (1 ≤ s) = true := by simpa using h1
  have k2 : decide (s ≤ 32) = true := by simpa using h2
  clear h p0
  rcases hb with rfl | rfl | rfl | rfl
  all_goals
    go_enter Tryd.func16, Tryd.ntmps16
    go_wp2
    go_ret
    exact ⟨rfl, HB.out⟩
set_option maxRecDepth 100000 in
set_option maxHeartbeats 2000000 in
theorem refvalid_f (b s : Int) (h : okZ b s = false) (w : World) :
    Calls Tryd.prog 16 #[.agg #[.int .i64 b, .int .i64 s]] w fun e w' => e = .returned (.bool false) ∧ Below w.heap.size w w' := by
  have p0 := rs_new w b s
  have HB := hidIt p0.bel
  have e0 := p0.c0
  have e1 := p0.c1
  have hn : ¬ ((b = 1 ∨ b = 2 ∨ b = 4 ∨ b = 8) ∧ 1 ≤ s ∧ s ≤ 32) := fun hh => by rw [(okZ_iff b s).2 hh] at h; cases h
  clear h p0
  by_cases hb : b = 1 ∨ b = 2 ∨ b = 4 ∨ b = 8
  · by_cases h1 : 1 ≤ s
    · have h2 : ¬ s ≤ 32 := fun h2 => hn ⟨hb, h1, h2⟩
      have k1 : decide (1 ≤ s) = true := by simpa using h1
      have k2 : decide (s ≤ 32) = false := by simpa using h2
      clear hn
      rcases hb with rfl | rfl | rfl | rfl
      all_goals
        go_enter Tryd.func16, Tryd.ntmps16
        go_wp2
        go_ret
        exact ⟨rfl, HB.out⟩
    · have k1 : decide (1 ≤ s) = false := by simpa using h1
      clear hn
      rcases hb with rfl | rfl | rfl | rfl
      all_goals
        go_enter Tryd.func16, Tryd.ntmps16
        go_wp2
        go_ret
        exact ⟨rfl, HB.out⟩
  · have k1 : (b == 1) = false := by simp; omega
    have k2 : (b == 2) = false := by simp; omega
    have k3 : (b == 4) = false := by simp; omega
    have k4 : (b == 8) = false := by simp; omega
    clear hn hb
    go_enter Tryd.func16, Tryd.ntmps16
    go_wp2
    go_ret
    exact ⟨rfl, HB.out⟩
def smB (b s : Int) : Bool := (decide (b ≤ 4) && decide (s ≤ 8)) || decide (s ≤ 2)
set_option maxRecDepth 100000 in
theorem refsmall_any (b s : Int) (w : World) :
    Calls Tryd.prog 27 #[.agg #[.int .i64 b, .int .i64 s]] w fun e w' => e = .returned (.bool (smB b s)) ∧ Below w.heap.size w w' := by
  have p0 := rs_new w b s
  have HB := hidIt p0.bel
  have e0 := p0.c0
  have e1 := p0.c1
  obtain ⟨r, hr⟩ : ∃ r, Hid (smB b s = r) := ⟨_, rfl⟩
  rw [hr.out]
  clear p0
  by_cases h1 : b ≤ 4
  · by_cases h2 : s ≤ 8
    · have k1 : decide (b ≤ 4) = true := by simpa using h1
      have k2 : decide (s ≤ 8) = true := by simpa using h2
      have hr2 : Hid (r = true) := by show _ = _; rw [← hr.out]; unfold smB; rw [k1, k2]; rfl
      clear hr
      go_enter Tryd.func27, Tryd.ntmps27
      go_wp2
      go_ret
      exact ⟨by rw [hr2.out]; rfl, HB.out⟩
    · have k1 : decide (b ≤ 4) = true := by simpa using h1
      have k2 : decide (s ≤ 8) = false := by simpa using h2
      have k3 : decide (s ≤ 2) = false := by simp; omega
      have hr2 : Hid (r = false) := by show _ = _; rw [← hr.out]; unfold smB; rw [k1, k2, k3]; rfl
      clear hr
      go_enter Tryd.func27, Tryd.ntmps27
      go_wp2
      go_ret
      exact ⟨by rw [hr2.out]; rfl, HB.out⟩
  · have k1 : decide (b ≤ 4) = false := by simpa using h1
    by_cases h2 : s ≤ 2
    · have k3 : decide (s ≤ 2) = true := by simpa using h2
      have hr2 : Hid (r = true) := by show _ = _; rw [← hr.out]; unfold smB; rw [k1, k3]; rfl
      clear hr
      go_enter Tryd.func27, Tryd.ntmps27
      go_wp2
      go_ret
      exact ⟨by rw [hr2.out]; rfl, HB.out⟩
    · have k3 : decide (s ≤ 2) = false := by simpa using h2
      have hr2 : Hid (r = false) := by show _ = _; rw [← hr.out]; unfold smB; rw [k1, k3]; rfl
      clear hr
      go_enter Tryd.func27, Tryd.ntmps27
      go_wp2
      go_ret
      exact ⟨by rw [hr2.out]; rfl, HB.out⟩
def Fits (b s : Int) (sd dig : ByteArray) : Prop := okZ b s = true ∧ smB b s = true ∧ (sd.size : Int) = 32 ∧ (dig.size : Int) = s
set_option maxRecDepth 100000 in
theorem fits_t (b s : Int) (sd dig : ByteArray) (h : Fits b s sd dig) (w : World) :
    Calls Tryd.prog 37 #[.agg #[.int .i64 b, .int .i64 s], .string sd, .string dig] w fun e w' => e = .returned (.bool true) ∧ Below w.heap.size w w' := by
  obtain ⟨h1, h2, h3, h4⟩ := h
  have p0 := rs_new w b s
  have e0 := p0.c0
  have e1 := p0.c1
  have d1 : Hid (∀ W, Calls Tryd.prog 16 #[.agg #[.int .i64 b, .int .i64 s]] W fun e w' => e = .returned (.bool true) ∧ Below W.heap.size W w') := fun W => refvalid_t b s h1 W
  have d2 : Hid (∀ W, Calls Tryd.prog 27 #[.agg #[.int .i64 b, .int .i64 s]] W fun e w' => e = .returned (.bool true) ∧ Below W.heap.size W w') := fun W => h2 ▸ refsmall_any b s W
  clear h1 h2
  go_enter Tryd.func37, Tryd.ntmps37
  go_wp2_with (fail)
  refine (d1.out _).mono ?_
  rintro e w1 ⟨rfl, hb1⟩
  have p1 := p0.next hb1
  clear hb1 p0 e0 e1
  have e0 := p1.c0
  have e1 := p1.c1
  go_wp2_with (fail)
  refine (d2.out _).mono ?_
  rintro e w2 ⟨rfl, hb2⟩
  have p2 := p1.next hb2
  clear hb2 p1 e0 e1
  have e0 := p2.c0
  have e1 := p2.c1
  have HB := hidIt p2.bel
  go_wp2_with (fail)
  go_ret
  exact ⟨rfl, HB.out⟩
set_option maxRecDepth 100000 in
theorem fits_f (b s : Int) (sd dig : ByteArray) (h : ¬ Fits b s sd dig) (w : World) :
    Calls Tryd.prog 37 #[.agg #[.int .i64 b, .int .i64 s], .string sd, .string dig] w fun e w' => e = .returned (.bool false) ∧ Below w.heap.size w w' := by
  have p0 := rs_new w b s
  have e0 := p0.c0
  have e1 := p0.c1
  by_cases h1 : okZ b s = true
  · have d1 : Hid (∀ W, Calls Tryd.prog 16 #[.agg #[.int .i64 b, .int .i64 s]] W fun e w' => e = .returned (.bool true) ∧ Below W.heap.size W w') := fun W => refvalid_t b s h1 W
    by_cases h2 : smB b s = true
    · have d2 : Hid (∀ W, Calls Tryd.prog 27 #[.agg #[.int .i64 b, .int .i64 s]] W fun e w' => e = .returned (.bool true) ∧ Below W.heap.size W w') := fun W => h2 ▸ refsmall_any b s W
      have h3 : ¬ (sd.size : Int) = 32 ∨ ((sd.size : Int) = 32 ∧ ((dig.size : Int) == s) = false) := by
        by_cases h3 : (sd.size : Int) = 32
        · exact .inr ⟨h3, by simpa using fun h4 => h ⟨h1, h2, h3, h4⟩⟩
        · exact .inl h3
      clear h h1 h2
      rcases h3 with h3 | ⟨h3, h4⟩
      all_goals
        go_enter Tryd.func37, Tryd.ntmps37
        go_wp2_with (fail)
        refine (d1.out _).mono ?_
        rintro e w1 ⟨rfl, hb1⟩
        have p1 := p0.next hb1
        clear hb1 p0 e0 e1
        have e0 := p1.c0
        have e1 := p1.c1
        go_wp2_with (fail)
        refine (d2.out _).mono ?_
        rintro e w2 ⟨rfl, hb2⟩
        have p2 := p1.next hb2
        clear hb2 p1 e0 e1
        have e0 := p2.c0
        have e1 := p2.c1
        have HB := hidIt p2.bel
        go_wp2_with (fail)
        go_ret
        exact ⟨rfl, HB.out⟩
    · have h2' : smB b s = false := by simpa using h2
      have d2 : Hid (∀ W, Calls Tryd.prog 27 #[.agg #[.int .i64 b, .int .i64 s]] W fun e w' => e = .returned (.bool false) ∧ Below W.heap.size W w') := fun W => h2' ▸ refsmall_any b s W
      clear h h1 h2 h2'
      go_enter Tryd.func37, Tryd.ntmps37
      go_wp2_with (fail)
      refine (d1.out _).mono ?_
      rintro e w1 ⟨rfl, hb1⟩
      have p1 := p0.next hb1
      clear hb1 p0 e0 e1
      have e0 := p1.c0
      have e1 := p1.c1
      go_wp2_with (fail)
      refine (d2.out _).mono ?_
      rintro e w2 ⟨rfl, hb2⟩
      have HB := hidIt (p1.next hb2).bel
      clear hb2 p1 e0 e1
      go_wp2_with (fail)
      go_ret
      exact ⟨rfl, HB.out⟩
  · have h1' : okZ b s = false := by simpa using h1
    clear h h1
    go_enter Tryd.func37, Tryd.ntmps37
    go_wp2_with (fail)
    refine (refvalid_f b s h1' _).mono ?_
    rintro e w1 ⟨rfl, hb1⟩
    have HB := hidIt (p0.next hb1).bel
    clear hb1 p0 e0 e1
    go_wp2_with (fail)
    go_ret
    exact ⟨rfl, HB.out⟩
end Go.Proofs.YtegfbmekpmdcaaaDoor
