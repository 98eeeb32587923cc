import Derived.Test.YtegfbmekpmdcaaaDoorOn12
namespace Go.Proofs.YtegfbmekpmdcaaaDoor
open Go.RowKit
noncomputable def chV (c f t : Int) (x : ByteArray) : ByteArray := if chOk c f t x = true then Ot.chn c.toNat f.toNat (t.toNat - f.toNat) x else ⟨#[]⟩
def chE (c f t : Int) (x : ByteArray) : Int := if chOk c f t x = true then 0 else 1
theorem chain_any (c f t : Int) (x : ByteArray) (w : World) (hL : LaidH w) :
    Calls Tryd.prog 24 #[.int .i64 c, .int .i64 f, .int .i64 t, .string x] w fun e w' => e = .returned (.tuple #[.string (chV c f t x), .int .i64 (chE c f t x)]) ∧ Below w.heap.size w w' := by
  unfold chV chE
  by_cases h : chOk c f t x = true
  · rw [if_pos h, if_pos h]
    obtain ⟨h1, h2, h3, h4, h5⟩ := (chOk_iff _ _ _ _).1 h
    have h6 := (exB_iff _).1 h1
    have := chain_ok c.toNat f.toNat t.toNat (by omega) (by omega) (by omega) x h5 w hL
    rwa [show ((c.toNat : Nat) : Int) = c by omega, show ((f.toNat : Nat) : Int) = f by omega, show ((t.toNat : Nat) : Int) = t by omega] at this
  · rw [if_neg h, if_neg h]
    exact chain_no c f t x (by simpa using h) w
theorem chE_or (c f t : Int) (x : ByteArray) : chE c f t x = 0 ∨ chE c f t x = 1 := by unfold chE; split <;> simp
theorem chE_ok {c f t : Int} {x : ByteArray} (h : chE c f t x = 0) : chOk c f t x = true := by
  unfold chE at h; split at h
  · assumption
  · omega
theorem chV_pos {c f t : Int} {x : ByteArray} (h : chOk c f t x = true) : chV c f t x = Ot.chn c.toNat f.toNat (t.toNat - f.toNat) x := by unfold chV; rw [if_pos h]
theorem composed {c f m t : Int} {x : ByteArray} (h1 : chE c f m x = 0) (h2 : chE c m t (chV c f m x) = 0) : chE c f t x = 0 ∧ chV c f t x = chV c m t (chV c f m x) ∧ (f = t → chV c f t x = x) := by
  have k1 := (chOk_iff _ _ _ _).1 (chE_ok h1)
  have k2 := (chOk_iff _ _ _ _).1 (chE_ok h2)
  have k3 : chOk c f t x = true := (chOk_iff _ _ _ _).2 ⟨k1.1, k1.2.1, by omega, k2.2.2.2.1, k1.2.2.2.2⟩
  have e3 : chV c f t x = Ot.chn c.toNat f.toNat (t.toNat - f.toNat) x := chV_pos k3
  have e1 : chV c f m x = Ot.chn c.toNat f.toNat (m.toNat - f.toNat) x := chV_pos (chE_ok h1)
  have e2 : chV c m t (chV c f m x) = Ot.chn c.toNat m.toNat (t.toNat - m.toNat) (chV c f m x) := chV_pos (chE_ok h2)
  refine ⟨by unfold chE; rw [if_pos k3], ?_, ?_⟩
  · rw [e2, e1, e3]
    have := Ot.chn_add c.toNat f.toNat (m.toNat - f.toNat) x (t.toNat - m.toNat)
    rw [show m.toNat - f.toNat + (t.toNat - m.toNat) = t.toNat - f.toNat by omega, show f.toNat + (m.toNat - f.toNat) = m.toNat by omega] at this
    exact this
  · intro h
    rw [e3, h, Nat.sub_self]; rfl
set_option maxRecDepth 100000 in
set_option maxHeartbeats 1000000 in
theorem ocomposes_walk (c f m t : Int) (x : ByteArray) (w : World) (hL : LaidH w) (_h0 : (Lit.int .i64 c).wf = true) (_h1 : (Lit.int .i64 f).wf = true) (_h2 : (Lit.int .i64 m).wf = true) (_h3 : (Lit.int .i64 t).wf = true) (_h4 : x.size ≤ maxLen) :
    Calls Tryd.prog 9 #[.int .i64 c, .int .i64 f, .int .i64 m, .int .i64 t, .string x] w fun e w' => e = .returned (.bool true) ∧ Below w.heap.size w w' := by
  clear _h0 _h1 _h2 _h3 _h4
  obtain ⟨y, hy⟩ : ∃ y, Hid (chV c f m x = y) := ⟨_, rfl⟩
  obtain ⟨z, hz⟩ : ∃ z, Hid (chV c m t y = z) := ⟨_, rfl⟩
  obtain ⟨v, hv⟩ : ∃ v, Hid (chV c f t x = v) := ⟨_, rfl⟩
  obtain ⟨e1, he1⟩ : ∃ e, Hid (chE c f m x = e) := ⟨_, rfl⟩
  obtain ⟨e2, he2⟩ : ∃ e, Hid (chE c m t y = e) := ⟨_, rfl⟩
  obtain ⟨e3, he3⟩ : ∃ e, Hid (chE c f t x = e) := ⟨_, rfl⟩
  have d1 : Hid (∀ W, LaidH W → Calls Tryd.prog 24 #[.int .i64 c, .int .i64 f, .int .i64 m, .string x] W fun e w' => e = .returned (.tuple #[.string y, .int .i64 e1]) ∧ Below W.heap.size W w') := fun W hW => by have := chain_any c f m x W hW; rwa [hy.out, he1.out] at this
  have d2 : Hid (∀ W, LaidH W → Calls Tryd.prog 24 #[.int .i64 c, .int .i64 m, .int .i64 t, .string y] W fun e w' => e = .returned (.tuple #[.string z, .int .i64 e2]) ∧ Below W.heap.size W w') := fun W hW => by have := chain_any c m t y W hW; rwa [hz.out, he2.out] at this
  have d3 : Hid (∀ W, LaidH W → Calls Tryd.prog 24 #[.int .i64 c, .int .i64 f, .int .i64 t, .string x] W fun e w' => e = .returned (.tuple #[.string v, .int .i64 e3]) ∧ Below W.heap.size W w') := fun W hW => by have := chain_any c f t x W hW; rwa [hv.out, he3.out] at this
  have o1 := chE_or c f m x
  have o2 := chE_or c m t y
  rw [he1.out] at o1
  rw [he2.out] at o2
  have key : Hid (e1 = 0 → e2 = 0 → e3 = 0 ∧ v = z ∧ (f = t → v = x)) := fun h1 h2 => by
    have := composed (c := c) (f := f) (m := m) (t := t) (x := x) (by rw [he1.out]; exact h1) (by rw [hy.out, he2.out]; exact h2)
    rw [he3.out, hv.out, hy.out, hz.out] at this
    exact this
  clear he1 he2 he3 hy hz hv
  go_enter Tryd.func9, Tryd.ntmps9
  go_wp2_with (fail)
  refine (awake_any _ hL).mono ?_
  rintro e w1 ⟨rfl, hb1⟩
  have H1 := hidIt hb1
  have L1 := hL.below hb1 hL.two
  clear hb1
  go_wp2_with (fail)
  refine (d1.out _ L1).mono ?_
  rintro e w2 ⟨rfl, hb2⟩
  have H2 := hidIt (below_then H1.out hb2)
  have L2 := L1.below hb2 L1.two
  clear hb2 L1 H1
  go_wp2_with (fail)
  refine (d2.out _ L2).mono ?_
  rintro e w3 ⟨rfl, hb3⟩
  have H3 := hidIt (below_then H2.out hb3)
  have L3 := L2.below hb3 L2.two
  clear hb3 L2 H2
  go_wp2_with (fail)
  refine (d3.out _ L3).mono ?_
  rintro e w4 ⟨rfl, hb4⟩
  have HB := hidIt (below_then H3.out hb4)
  clear hb4 L3 H3 d1 d2 d3
  by_cases k1 : e1 = 0
  · by_cases k2 : e2 = 0
    · obtain ⟨k3, k4, k5⟩ := key.out k1 k2
      subst k4
      have t1 : (v.toList == v.toList) = true := by simp
      have k5' := hidIt k5
      clear k5 key o1 o2
      by_cases k6 : f = t
      · have k7 := k5'.out k6
        subst k7
        clear k5'
        go_wp2_with (fail)
        go_ret
        exact ⟨rfl, HB.out⟩
      · clear k5'
        go_wp2_with (fail)
        go_ret
        exact ⟨rfl, HB.out⟩
    · clear key o1 o2
      go_wp2_with (fail)
      go_ret
      exact ⟨rfl, HB.out⟩
  · clear key o1 o2
    go_wp2_with (fail)
    go_ret
    exact ⟨rfl, HB.out⟩
set_option maxRecDepth 100000 in
set_option maxHeartbeats 1000000 in
theorem ocovered_walk (b s : Int) (x y : ByteArray) (w : World) (hL : LaidH w) (_h0 : (Lit.int .i64 b).wf = true) (_h1 : (Lit.int .i64 s).wf = true) (_h2 : x.size ≤ maxLen) (_h3 : y.size ≤ maxLen) :
    Calls Tryd.prog 8 #[.agg #[.int .i64 b, .int .i64 s], .string x, .string y] w fun e w' => e = .returned (.bool true) ∧ Below w.heap.size w w' := by
  clear _h0 _h1 _h2 _h3
  have p0 : PS w w.heap.size b s (w.alloc (.cells #[.int .i64 b, .int .i64 s] 23)) := ps_new _ _ _ _
  have key : ∃ (cv : Bool) (er : Int), Hid (∀ W, Calls Tryd.prog 15 #[.agg #[.int .i64 b, .int .i64 s], .string x, .string y] W fun e w' => e = .returned (.tuple #[.bool cv, .int .i64 er]) ∧ Below W.heap.size W w') ∧ ((er = 1 ∧ cv = false) ∨ (er = 0 ∧ (x.toList == y.toList) = cv)) := by
    by_cases h1 : okZ b s = false ∨ ¬ (x.size : Int) = s
    · exact ⟨false, 1, fun W => covers_no1 b s x y h1 W, .inl ⟨rfl, rfl⟩⟩
    · have h2 : okZ b s = true := by
        cases hz : okZ b s with
        | true => rfl
        | false => exact absurd (.inl hz) h1
      have h3 : (x.size : Int) = s := Classical.byContradiction fun h => h1 (.inr h)
      obtain ⟨b', s', rfl, rfl, ho⟩ := okZ_of h2
      by_cases h4 : (y.size : Int) = (s' : Int)
      · refine ⟨decide (x = y), 0, fun W => covers_ok b' s' ho x y _ _ (hidIt rfl) (hidIt rfl) h3 h4 _ ?_ W, .inr ⟨rfl, ?_⟩⟩
        · show _ ↔ _
          rw [decide_eq_true_iff]
          constructor
          · rintro rfl; exact fun _ _ => Nat.le_refl _
          · intro h
            exact str_eq_of (Ot.covered b' s' ho _ _ (ofStr_lt x) (ofStr_lt y) (by rw [ofStr_len]; omega) (by rw [ofStr_len]; omega) h)
        · by_cases h : x = y
          · subst h; simp
          · rw [(str_bne h).2]; simp [h]
      · exact ⟨false, 1, fun W => covers_no2 b' s' ho x y _ (hidIt rfl) h3 h4 W, .inl ⟨rfl, rfl⟩⟩
  obtain ⟨cv, er, dC, hor⟩ := key
  have dP : Hid (∀ W, Calls Tryd.prog 13 #[.agg #[.int .i64 b, .int .i64 s]] W fun e w' => e = .returned (.agg #[.int .i64 b, .int .i64 s]) ∧ Below W.heap.size W w') := fun W => params_any b s W
  have L0 := hL.below p0.bel hL.two
  have hor2 := hidIt hor
  clear hor
  go_enter Tryd.func8, Tryd.ntmps8
  go_wp2_with (fail)
  refine (awake_any _ L0).mono ?_
  rintro e w1 ⟨rfl, hb1⟩
  have p1 := p0.next hb1
  have e0 := p1.c0
  have e1 := p1.c1
  clear hb1 p0 L0
  go_wp2_with (fail)
  refine (dP.out _).mono ?_
  rintro e w2 ⟨rfl, hb2⟩
  have p2 := p1.next hb2
  clear hb2 p1 e0 e1
  go_wp2_with (fail)
  refine (dC.out _).mono ?_
  rintro e w3 ⟨rfl, hb3⟩
  have HB := hidIt (p2.next hb3).bel
  clear hb3 p2 dC dP
  rcases hor2.out with ⟨rfl, rfl⟩ | ⟨rfl, hxy⟩
  · clear hor2
    go_wp2_with (fail)
    go_ret
    exact ⟨rfl, HB.out⟩
  · clear hor2
    go_wp2_with (fail)
    go_ret
    exact ⟨by simp, HB.out⟩
end Go.Proofs.YtegfbmekpmdcaaaDoor
