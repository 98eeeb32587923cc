import Derived.Test.YtpfekbbmbdegbaaDoorStC
namespace Go.Proofs.YtpfekbbmbdegbaaDoor
open Go.RowKit
theorem St.start (w w4 : World) (g0 g1 : Nat) (s3 : SR w4 g0 []) (hs4 : SR w4 g1 []) (H4 : Below w.heap.size w w4) (z3 : w.heap.size ≤ g0) (z4 : g0 < g1) :
    St w ((((w4.alloc (.cells #[.pointer (some ⟨g0, 0, none⟩), .pointer (some ⟨g1, 0, none⟩)] 25)).alloc (.cells #[] 5)).alloc (.cells #[] 5)).alloc (.cells #[.slice (some ⟨w4.heap.size + 1, 0, none⟩) 0 0, .slice (some ⟨w4.heap.size + 2, 0, none⟩) 0 0] 28)) w4.heap.size (w4.heap.size + 3) g0 g1 (w4.heap.size + 1) (w4.heap.size + 2) 0 0 0 0 [] [] [] [] := by
  have q3 := s3.lt
  have q4 := hs4.lt
  have q0 := H4.size
  have hb : Below w4.heap.size w4 ((((w4.alloc (.cells #[.pointer (some ⟨g0, 0, none⟩), .pointer (some ⟨g1, 0, none⟩)] 25)).alloc (.cells #[] 5)).alloc (.cells #[] 5)).alloc (.cells #[.slice (some ⟨w4.heap.size + 1, 0, none⟩) 0 0, .slice (some ⟨w4.heap.size + 2, 0, none⟩) 0 0] 28)) :=
    (((((Below.refl _ _).alloc (Nat.le_refl _) _).alloc (by simp) _).alloc (by simp; omega) _).alloc (by simp; omega) _)
  have hQ := Blk.new (((w4.alloc (.cells #[.pointer (some ⟨g0, 0, none⟩), .pointer (some ⟨g1, 0, none⟩)] 25)).alloc (.cells #[] 5)).alloc (.cells #[] 5)) 28 #[.slice (some ⟨w4.heap.size + 1, 0, none⟩) 0 0, .slice (some ⟨w4.heap.size + 2, 0, none⟩) 0 0]
  have hz : (((w4.alloc (.cells #[.pointer (some ⟨g0, 0, none⟩), .pointer (some ⟨g1, 0, none⟩)] 25)).alloc (.cells #[] 5)).alloc (.cells #[] 5)).heap.size = w4.heap.size + 3 := by simp
  rw [hz] at hQ
  refine ⟨?_, hQ, s3.below hb, hs4.below hb, fun i hi => by simp at hi, fun i hi => by simp at hi, rfl, rfl, Nat.le_refl _, Nat.le_refl _, fun z hz => by simp at hz, fun z hz => by simp at hz, ?_, ?_, ?_, below_then H4 hb⟩
  · exact (((Blk.new w4 25 #[.pointer (some ⟨g0, 0, none⟩), .pointer (some ⟨g1, 0, none⟩)]).alloc _).alloc _).alloc _
  · omega
  · constructor <;> simp <;> omega
  · omega
set_option maxRecDepth 100000 in
set_option maxHeartbeats 4000000 in
theorem state_walk (a : Option Addr) (len cap : Nat) (S K : Nat → Int) (A : Nat → Option Addr) (L C : Nat → Nat) (bs : Nat → List Nat) (w : World) (hL : Laid w) (hR : OpsR w a len S K A L C bs) (hlc : len ≤ cap) (hlen : len ≤ 140737488355328) (hS : ∀ i, i < len → L i ≤ 140737488355328) :
    Calls Tryd.prog 3 #[.slice a len cap] w fun e w' => e = .returned (.bool true) ∧ Below w.heap.size w w' := by
  have hR2 := hidIt hR
  clear hR
  go_enter Tryd.func3, Tryd.ntmps3
  go_wp2_with (fail)
  refine (awake_any _ hL).mono ?_
  rintro e w1 ⟨rfl, hb1⟩
  have L1 := hL.below hb1 hL.two
  have hR1 : OpsR w1 a len S K A L C bs := ⟨fun i hi => by
    obtain ⟨b, off, e, e1, e2, e3⟩ := hR2.out.top i hi
    exact ⟨b, off, e, (hb1.cell (p := ⟨b, off + i * 3, none⟩) (bytes_lt e1)).trans e1, (hb1.cell (p := ⟨b, off + i * 3 + 1, none⟩) (bytes_lt e2)).trans e2, (hb1.cell (p := ⟨b, off + i * 3 + 2, none⟩) (bytes_lt e3)).trans e3⟩, fun i hi => by
    have h := hR2.out.row i hi
    exact ⟨h.bytes.below hb1, h.len, h.nil, h.lt, h.lecap, h.capm⟩⟩
  go_wp2_with (fail)
  refine (few_any a len cap S K A L C bs _ hR1 hlc hlen hS).mono ?_
  rintro e w2 ⟨⟨bb, rfl, hbb⟩, rfl⟩
  clear hR1
  cases bb with
  | false =>
    go_wp2_with (fail)
    refine (awake_any _ L1).mono ?_
    rintro e w3 ⟨rfl, hb3⟩
    go_wp2_with (fail)
    go_ret
    exact ⟨rfl, below_then hb1 hb3⟩
  | true =>
    obtain ⟨h20, h600⟩ := hbb rfl
    clear hbb hS
    go_wp2_with (fail)
    refine (new_any _ L1).mono ?_
    rintro e w3 ⟨rfl, hs3, hb3⟩
    have H3 := below_then hb1 hb3
    have L3 := hL.below H3 hL.two
    go_wp2_with (fail)
    refine (new_any _ L3).mono ?_
    rintro e w4 ⟨rfl, hs4, hb4⟩
    have H4 := below_then H3 hb4
    have s3 := hs3.below hb4
    have z3 := hb1.size
    have z4 := hs3.lt
    obtain ⟨g0, hg0⟩ : ∃ g, Hid (w1.heap.size = g) := ⟨_, rfl⟩
    obtain ⟨g1, hg1⟩ : ∃ g, Hid (w3.heap.size = g) := ⟨_, rfl⟩
    have z5 := hs4.lt
    rw [hg0.out] at s3 z3 z4
    rw [hg1.out] at hs4 z4 z5
    have hN := hidIt (show w1.heap.size = g0 from hg0.out)
    clear hs3 hb3 hb4 L1 L3
    have hst0 := hidIt (St.start w w4 g0 g1 s3 hs4 H4 z3 z4)
    rw [hg0.out, hg1.out]
    go_wp2
    obtain ⟨w5, hw5⟩ : ∃ w5, Hid ((((w4.alloc (.cells #[.pointer (some ⟨g0, 0, none⟩), .pointer (some ⟨g1, 0, none⟩)] 25)).alloc (.cells #[] 5)).alloc (.cells #[] 5)).alloc (.cells #[.slice (some ⟨w4.heap.size + 1, 0, none⟩) 0 0, .slice (some ⟨w4.heap.size + 2, 0, none⟩) 0 0] 28) = w5) := ⟨_, rfl⟩
    rw [hw5.out] at hst0 ⊢
    obtain ⟨P, hP⟩ : ∃ P, Hid (w4.heap.size = P) := ⟨_, rfl⟩
    obtain ⟨Q, hQ⟩ : ∃ Q, Hid (P + 3 = Q) := ⟨_, rfl⟩
    rw [hP.out] at hst0 ⊢
    rw [hQ.out] at hst0 ⊢
    obtain ⟨q1, hq1⟩ : ∃ q, Hid (P + 1 = q) := ⟨_, rfl⟩
    obtain ⟨q2, hq2⟩ : ∃ q, Hid (P + 2 = q) := ⟨_, rfl⟩
    rw [hq1.out, hq2.out] at hst0
    clear hw5 hP hQ hq1 hq2 s3 hs4 z3 z4 z5 hN H3 H4 hg0 hg1 hb1
    go_loopw [5, 6] (fun i _ wr => ∃ (j g0 g1 a0 a1 n0 n1 c0 c1 : Nat) (x0 x1 : List Nat), j ≤ len ∧ i = .int .i64 (j : Int) ∧ St w wr P Q g0 g1 a0 a1 n0 n1 c0 c1 x0 x1 x0 x1 ∧ x0.length ≤ tot L j ∧ x1.length ≤ tot L j) (fun i _ _ => len - (intOf i).toNat)
    case atStart => exact ⟨0, g0, g1, q1, q2, 0, 0, 0, 0, [], [], by omega, rfl, hst0.out, Nat.le_refl _, Nat.le_refl _⟩
    case round =>
      clear hst0
      obtain ⟨j, g0, g1, a0, a1, n0, n1, c0, c1, x0, x1, hj, rfl, hst, hx0, hx1⟩ := hrel
      have hm := hidIt (tot_mono L j len hj)
      have u0 : x0.length ≤ 600 := by have := hm.out; omega
      have u1 : x1.length ≤ 600 := by have := hm.out; omega
      by_cases hlt : j < len
      · obtain ⟨b, off, rfl, e0, e1, e2⟩ := hR2.out.top j hlt
        have hrow := hidIt (hR2.out.row j hlt)
        have f0 := opC hst e0
        have f1 := opC hst e1
        have f2 := opC hst e2
        have i1 : (j : Int) < (len : Int) := by omega
        have i2 : (j : Int) < (cap : Int) := by omega
        have hxl := hidIt (tot_mono L (j + 1) len hlt)
        obtain ⟨Sj, hSj⟩ : ∃ l, Hid (S j = l) := ⟨_, rfl⟩
        obtain ⟨Kj, hKj⟩ : ∃ l, Hid (K j = l) := ⟨_, rfl⟩
        obtain ⟨Lj, hLj⟩ : ∃ l, Hid (L j = l) := ⟨_, rfl⟩
        obtain ⟨Cj, hCj⟩ : ∃ l, Hid (C j = l) := ⟨_, rfl⟩
        obtain ⟨Aj, hAj⟩ : ∃ l, Hid (A j = l) := ⟨_, rfl⟩
        obtain ⟨xs, hxs⟩ : ∃ l, Hid (bs j = l) := ⟨_, rfl⟩
        rw [hSj.out] at f0
        rw [hKj.out] at f1
        rw [hLj.out, hCj.out, hAj.out] at f2 hrow
        rw [hxs.out] at hrow
        have hln : Hid (Lj = xs.length) := hrow.out.len
        have hnx : Hid (tot L (j + 1) = tot L j + Lj) := by show tot L j + L j = _; rw [hLj.out]
        have f2w := e2
        rw [hLj.out, hCj.out, hAj.out] at f2w
        have f2h := hidIt f2w
        clear f2w e0 e1 e2 hm hlen
        by_cases hs0 : Sj = 0
        · subst hs0
          by_cases hk1 : Kj = 1
          · subst hk1
            have pk := hst.pc0
            go_wp2_with (fail)
            go_still_tail 9, (by kernel_rfl)
            change wpList _ _ _ _ _ wr.drew
            have hstd := hst.drewN 1
            clear pk
            go_wp2_with (fail)
            refine (st_write0 hstd hL (by omega) Aj Lj Cj xs (by have := hln.out; have := hxl.out; have := hnx.out; omega) hrow.out).mono ?_
            rintro e w6 ⟨rfl, hst6⟩
            have qk := hst6.qc0
            have fo := opC hst6 f2h.out
            have fz := hst6.q.frozen 0
            have hB6 := Below.refl w6.heap.size w6
            have hby6 := hst6.b0
            have hlk := hidIt hst6.l0
            have hxk := hidIt hst6.t0
            have hxB := hidIt (hrow.out.bytes.below hst6.bel)
            have hB0 : Below w6.heap.size w6 (w6.drew.alloc (.cells #[] 5)) := (below_drewN (Below.refl _ _) 1).alloc (Nat.le_refl _) _
            have hbyA := hidIt (hby6.below hB0)
            have pq6 := hst6.q.lt
            have pa6 := hst6.a.1
            have hall := hidIt (fun (W : World) (hB : Below w6.heap.size w6 W) => (⟨(hB.cell (p := ⟨Q, 0, none⟩) pq6).trans qk, (World.frozen?_of_block (a := ⟨Q, 0, none⟩) (hB.block Q pq6)).trans fz, opC (hst6.below hB) f2h.out⟩ : W.cell? ⟨Q, 0, none⟩ = some (.slice (some ⟨a0, 0, none⟩) n0 c0) ∧ W.frozen? ⟨Q, 0, none⟩ = false ∧ W.cell? ⟨b, off + j * 3 + 2, none⟩ = some (.slice Aj Lj Cj)))
            have hB1 : Below w6.heap.size w6 (w6.alloc (.cells #[] 5)) := (Below.refl _ _).alloc (Nat.le_refl _) _
            have qA := (hall.out _ hB1).1
            have oA := (hall.out _ hB1).2.2
            clear hst hstd hby6 hB1
            go_wp2_with (fail)
            go_region_law (first
              | (refine step_append_bytes _ rfl _ _ rfl w6.heap.size (.slice (some ⟨w6.heap.size, 0, none⟩) 0 0) 0 [] rfl (World.ownsRow_made w6.drew #[] 0 (Nat.le_refl _) (by unfold maxLen; omega) rfl) (some ⟨a0, 0, none⟩) n0 c0 x0 rfl hlk.out hbyA.out (fun e => by cases e) (by omega) hB0.size ?_; intro v7 w7 hown7 hg7 hv7; rw [List.nil_append, Nat.zero_add] at hown7; have hv7' := hv7 (by simp); clear hv7; have hB7 : Below w6.heap.size w6 w7 := hB0.grown hg7 hB0.size (fun q hq => by cases hq; exact Nat.le_refl _); have q7 := (hall.out _ hB7).1; have z7 := (hall.out _ hB7).2.1; have o7 := (hall.out _ hB7).2.2)
              | (refine step_append_bytes _ rfl _ _ rfl w6.heap.size v7 x0.length (vals x0) rfl hown7 Aj Lj Cj xs rfl hln.out (hrow.out.bytes.below (hst6.below hB7).bel) hrow.out.nil (by have := hln.out; have := hxl.out; have := hnx.out; omega) hB7.size ?_; intro v8 w8 hown8 hg8 hv8; have hv8' := hv8 hv7'; clear hv8; have hB8 : Below w6.heap.size w6 w8 := hB7.grown hg8 hB7.size (fun q hq => (hown7.lt q hq).1); have q8 := (hall.out _ hB8).1; have z8 := (hall.out _ hB8).2.1; obtain ⟨n8, hn8⟩ : ∃ n8, Hid (x0.length + xs.length = n8) := ⟨_, rfl⟩; have hown9 := owned_append hown8 hn8.out; obtain ⟨b8, c8, rfl, hb8, hbz8, hc8, hby8⟩ := own_form hown9 hv8' (by rw [List.length_append]; exact hn8.out.symm)))
            all_goals
              have hst8 := hidIt (hst6.text0 hB8 hby8 hb8 hbz8 (by rw [List.length_append]; exact hn8.out.symm) hc8 (fun z hz => (by
                rcases List.mem_append.1 hz with h | h
                · exact hxk.out z h
                · exact hrow.out.lt z h)))
              clear q7 z7 o7 q8 z8 qA oA hall hbyA hB0 hB7 hB8 hown7 hown8 hown9 hg7 hg8 hby8 hst6 f0 f1 f2 fo fz qk
              go_wp2_with (fail)
              go_roundw
              case rel => exact ⟨j + 1, g0, g1, b8, a1, n8, n1, c8, c1, x0 ++ xs, x1, by omega, by go_num, hst8.out, by rw [List.length_append]; have := hnx.out; have := hln.out; omega, by have := hnx.out; omega⟩
              case measure => simp [intOf]; omega
          · by_cases hk2 : Kj = 2
            · subst hk2
              obtain ⟨st, hstr⟩ : ∃ st, Hid (str (Sh.sum x0) = st) := ⟨_, rfl⟩
              have v1 : (st.toList == st.toList) = true := by simp
              have pk := hst.pc0
              have qk := hst.qc0
              have uk : x0.length ≤ 1000 := by omega
              go_wp2_with (fail)
              go_region_held3 (fun w' => St w w' P Q g0 g1 a0 a1 n0 n1 c0 c1 x0 x1 x0 x1 ∧ w'.cell? ⟨P, 0, none⟩ = some (.pointer (some ⟨g0, 0, none⟩)) ∧ w'.cell? ⟨Q, 0, none⟩ = some (.slice (some ⟨a0, 0, none⟩) n0 c0))
                (first
                  | exact St.all0 (by assumption)
                  | (go_split_ands; exact St.all0 (by assumption))
                  | exact St.all0 (St.drewN (by assumption) 1))
                (first
                  | (go_at_call 18; go_split_ands; refine (st_sum0 (by assumption) hL uk st hstr).mono ?_; rintro e w7 ⟨rfl, hb7, hs7⟩)
                  | (go_at_call 19; go_split_ands; refine (st_ref0 (by assumption) uk st hstr).mono ?_; rintro e w8 ⟨rfl, hb8, hs8⟩))
              all_goals
                have hs9 := hidIt hs8
                clear hst f0 f1 f2 pk qk
                go_wp2_with (fail)
                go_roundw
                case rel => exact ⟨j + 1, g0, g1, a0, a1, n0, n1, c0, c1, x0, x1, by omega, by go_num, hs9.out, by have := hnx.out; omega, by have := hnx.out; omega⟩
                case measure => simp [intOf]; omega
            · by_cases hk3 : Kj = 3
              · subst hk3
                have pk := hst.pc0
                have qk := hst.qc0
                have lk := hidIt hst.l0
                go_wp2_with (fail)
                go_region_held3 (fun w' => St w w' P Q g0 g1 a0 a1 n0 n1 c0 c1 x0 x1 x0 x1 ∧ w'.cell? ⟨P, 0, none⟩ = some (.pointer (some ⟨g0, 0, none⟩)) ∧ w'.cell? ⟨Q, 0, none⟩ = some (.slice (some ⟨a0, 0, none⟩) n0 c0))
                  (first
                    | exact St.all0 (by assumption)
                    | (go_split_ands; exact St.all0 (by assumption))
                    | exact St.all0 (St.drewN (by assumption) 1))
                  (first
                    | (go_at_call 20; go_split_ands; refine (st_len0 (by assumption) lk.out.symm).mono ?_; rintro e w7 ⟨rfl, rfl⟩))
                all_goals
                  have hs9 := hidIt (hst.drewN 1)
                  clear hst f0 f1 f2 pk qk
                  go_wp2_with (fail)
                  go_roundw
                  case rel => exact ⟨j + 1, g0, g1, a0, a1, n0, n1, c0, c1, x0, x1, by omega, by go_num, hs9.out, by have := hnx.out; omega, by have := hnx.out; omega⟩
                  case measure => simp [intOf]; omega
              · by_cases hk4 : Kj = 4
                · subst hk4
                  have pk := hst.pc0
                  go_wp2_with (fail)
                  refine (st_clone0 hst).mono ?_
                  rintro e w9 ⟨rfl, hs9, hb9⟩
                  have h9 := hst.below hb9
                  have p9 := h9.pc1
                  have z9 := h9.p.frozen 1
                  have z9' := h9.q.frozen 1
                  obtain ⟨gn, hgn⟩ : ∃ g, Hid (wr.heap.size = g) := ⟨_, rfl⟩
                  have hA := hst.clone1 hb9 hs9 (Nat.le_refl _)
                  rw [hgn.out] at hA ⊢
                  have qA := hA.qc0
                  have qA' := hA.qc1
                  have hB := hA.same1
                  have pB := hB.pc1
                  have hBh := hidIt hB
                  clear hA hB hs9 hb9 h9 hst
                  go_wp2_with (fail)
                  go_roundw
                  case rel => exact ⟨j + 1, g0, gn, a0, a0, n0, n0, c0, c0, x0, x0, by omega, by go_num, hBh.out, by have := hnx.out; omega, by have := hnx.out; omega⟩
                  case measure => simp [intOf]; omega
                · have hs9 := hidIt hst
                  clear hst
                  go_wp2_with (fail)
                  go_roundw
                  case rel => exact ⟨j + 1, g0, g1, a0, a1, n0, n1, c0, c1, x0, x1, by omega, by go_num, hs9.out, by have := hnx.out; omega, by have := hnx.out; omega⟩
                  case measure => simp [intOf]; omega
        · have hs1 : ¬ Sj = 0 := hs0
          by_cases hk1 : Kj = 1
          · subst hk1
            have pk := hst.pc1
            go_wp2_with (fail)
            go_still_tail 9, (by kernel_rfl)
            change wpList _ _ _ _ _ wr.drew
            have hstd := hst.drewN 1
            clear pk
            go_wp2_with (fail)
            refine (st_write1 hstd hL (by omega) Aj Lj Cj xs (by have := hln.out; have := hxl.out; have := hnx.out; omega) hrow.out).mono ?_
            rintro e w6 ⟨rfl, hst6⟩
            have qk := hst6.qc1
            have fo := opC hst6 f2h.out
            have fz := hst6.q.frozen 1
            have hB6 := Below.refl w6.heap.size w6
            have hby6 := hst6.b1
            have hlk := hidIt hst6.l1
            have hxk := hidIt hst6.t1
            have hxB := hidIt (hrow.out.bytes.below hst6.bel)
            have hB0 : Below w6.heap.size w6 (w6.drew.alloc (.cells #[] 5)) := (below_drewN (Below.refl _ _) 1).alloc (Nat.le_refl _) _
            have hbyA := hidIt (hby6.below hB0)
            have pq6 := hst6.q.lt
            have pa6 := hst6.a.2
            have hall := hidIt (fun (W : World) (hB : Below w6.heap.size w6 W) => (⟨(hB.cell (p := ⟨Q, 1, none⟩) pq6).trans qk, (World.frozen?_of_block (a := ⟨Q, 1, none⟩) (hB.block Q pq6)).trans fz, opC (hst6.below hB) f2h.out⟩ : W.cell? ⟨Q, 1, none⟩ = some (.slice (some ⟨a1, 0, none⟩) n1 c1) ∧ W.frozen? ⟨Q, 1, none⟩ = false ∧ W.cell? ⟨b, off + j * 3 + 2, none⟩ = some (.slice Aj Lj Cj)))
            have hB1 : Below w6.heap.size w6 (w6.alloc (.cells #[] 5)) := (Below.refl _ _).alloc (Nat.le_refl _) _
            have qA := (hall.out _ hB1).1
            have oA := (hall.out _ hB1).2.2
            clear hst hstd hby6 hB1
            go_wp2_with (fail)
            go_region_law (first
              | (refine step_append_bytes _ rfl _ _ rfl w6.heap.size (.slice (some ⟨w6.heap.size, 0, none⟩) 0 0) 0 [] rfl (World.ownsRow_made w6.drew #[] 0 (Nat.le_refl _) (by unfold maxLen; omega) rfl) (some ⟨a1, 0, none⟩) n1 c1 x1 rfl hlk.out hbyA.out (fun e => by cases e) (by omega) hB0.size ?_; intro v7 w7 hown7 hg7 hv7; rw [List.nil_append, Nat.zero_add] at hown7; have hv7' := hv7 (by simp); clear hv7; have hB7 : Below w6.heap.size w6 w7 := hB0.grown hg7 hB0.size (fun q hq => by cases hq; exact Nat.le_refl _); have q7 := (hall.out _ hB7).1; have z7 := (hall.out _ hB7).2.1; have o7 := (hall.out _ hB7).2.2)
              | (refine step_append_bytes _ rfl _ _ rfl w6.heap.size v7 x1.length (vals x1) rfl hown7 Aj Lj Cj xs rfl hln.out (hrow.out.bytes.below (hst6.below hB7).bel) hrow.out.nil (by have := hln.out; have := hxl.out; have := hnx.out; omega) hB7.size ?_; intro v8 w8 hown8 hg8 hv8; have hv8' := hv8 hv7'; clear hv8; have hB8 : Below w6.heap.size w6 w8 := hB7.grown hg8 hB7.size (fun q hq => (hown7.lt q hq).1); have q8 := (hall.out _ hB8).1; have z8 := (hall.out _ hB8).2.1; obtain ⟨n8, hn8⟩ : ∃ n8, Hid (x1.length + xs.length = n8) := ⟨_, rfl⟩; have hown9 := owned_append hown8 hn8.out; obtain ⟨b8, c8, rfl, hb8, hbz8, hc8, hby8⟩ := own_form hown9 hv8' (by rw [List.length_append]; exact hn8.out.symm)))
            all_goals
              have hst8 := hidIt (hst6.text1 hB8 hby8 hb8 hbz8 (by rw [List.length_append]; exact hn8.out.symm) hc8 (fun z hz => (by
                rcases List.mem_append.1 hz with h | h
                · exact hxk.out z h
                · exact hrow.out.lt z h)))
              clear q7 z7 o7 q8 z8 qA oA hall hbyA hB0 hB7 hB8 hown7 hown8 hown9 hg7 hg8 hby8 hst6 f0 f1 f2 fo fz qk
              go_wp2_with (fail)
              go_roundw
              case rel => exact ⟨j + 1, g0, g1, a0, b8, n0, n8, c0, c8, x0, x1 ++ xs, by omega, by go_num, hst8.out, by have := hnx.out; omega, by rw [List.length_append]; have := hnx.out; have := hln.out; omega⟩
              case measure => simp [intOf]; omega
          · by_cases hk2 : Kj = 2
            · subst hk2
              obtain ⟨st, hstr⟩ : ∃ st, Hid (str (Sh.sum x1) = st) := ⟨_, rfl⟩
              have v1 : (st.toList == st.toList) = true := by simp
              have pk := hst.pc1
              have qk := hst.qc1
              have uk : x1.length ≤ 1000 := by omega
              go_wp2_with (fail)
              go_region_held3 (fun w' => St w w' P Q g0 g1 a0 a1 n0 n1 c0 c1 x0 x1 x0 x1 ∧ w'.cell? ⟨P, 1, none⟩ = some (.pointer (some ⟨g1, 0, none⟩)) ∧ w'.cell? ⟨Q, 1, none⟩ = some (.slice (some ⟨a1, 0, none⟩) n1 c1))
                (first
                  | exact St.all1 (by assumption)
                  | (go_split_ands; exact St.all1 (by assumption))
                  | exact St.all1 (St.drewN (by assumption) 1))
                (first
                  | (go_at_call 18; go_split_ands; refine (st_sum1 (by assumption) hL uk st hstr).mono ?_; rintro e w7 ⟨rfl, hb7, hs7⟩)
                  | (go_at_call 19; go_split_ands; refine (st_ref1 (by assumption) uk st hstr).mono ?_; rintro e w8 ⟨rfl, hb8, hs8⟩))
              all_goals
                have hs9 := hidIt hs8
                clear hst f0 f1 f2 pk qk
                go_wp2_with (fail)
                go_roundw
                case rel => exact ⟨j + 1, g0, g1, a0, a1, n0, n1, c0, c1, x0, x1, by omega, by go_num, hs9.out, by have := hnx.out; omega, by have := hnx.out; omega⟩
                case measure => simp [intOf]; omega
            · by_cases hk3 : Kj = 3
              · subst hk3
                have pk := hst.pc1
                have qk := hst.qc1
                have lk := hidIt hst.l1
                go_wp2_with (fail)
                go_region_held3 (fun w' => St w w' P Q g0 g1 a0 a1 n0 n1 c0 c1 x0 x1 x0 x1 ∧ w'.cell? ⟨P, 1, none⟩ = some (.pointer (some ⟨g1, 0, none⟩)) ∧ w'.cell? ⟨Q, 1, none⟩ = some (.slice (some ⟨a1, 0, none⟩) n1 c1))
                  (first
                    | exact St.all1 (by assumption)
                    | (go_split_ands; exact St.all1 (by assumption))
                    | exact St.all1 (St.drewN (by assumption) 1))
                  (first
                    | (go_at_call 20; go_split_ands; refine (st_len1 (by assumption) lk.out.symm).mono ?_; rintro e w7 ⟨rfl, rfl⟩))
                all_goals
                  have hs9 := hidIt (hst.drewN 1)
                  clear hst f0 f1 f2 pk qk
                  go_wp2_with (fail)
                  go_roundw
                  case rel => exact ⟨j + 1, g0, g1, a0, a1, n0, n1, c0, c1, x0, x1, by omega, by go_num, hs9.out, by have := hnx.out; omega, by have := hnx.out; omega⟩
                  case measure => simp [intOf]; omega
              · by_cases hk4 : Kj = 4
                · subst hk4
                  have pk := hst.pc1
                  go_wp2_with (fail)
                  refine (st_clone1 hst).mono ?_
                  rintro e w9 ⟨rfl, hs9, hb9⟩
                  have h9 := hst.below hb9
                  have p9 := h9.pc0
                  have z9 := h9.p.frozen 0
                  have z9' := h9.q.frozen 0
                  obtain ⟨gn, hgn⟩ : ∃ g, Hid (wr.heap.size = g) := ⟨_, rfl⟩
                  have hA := hst.clone0 hb9 hs9 (Nat.le_refl _)
                  rw [hgn.out] at hA ⊢
                  have qA := hA.qc1
                  have qA' := hA.qc0
                  have hB := hA.same0
                  have pB := hB.pc0
                  have hBh := hidIt hB
                  clear hA hB hs9 hb9 h9 hst
                  go_wp2_with (fail)
                  go_roundw
                  case rel => exact ⟨j + 1, gn, g1, a1, a1, n1, n1, c1, c1, x1, x1, by omega, by go_num, hBh.out, by have := hnx.out; omega, by have := hnx.out; omega⟩
                  case measure => simp [intOf]; omega
                · have hs9 := hidIt hst
                  clear hst
                  go_wp2_with (fail)
                  go_roundw
                  case rel => exact ⟨j + 1, g0, g1, a0, a1, n0, n1, c0, c1, x0, x1, by omega, by go_num, hs9.out, by have := hnx.out; omega, by have := hnx.out; omega⟩
                  case measure => simp [intOf]; omega
      · have pk0 := hst.pc0
        have pk1 := hst.pc1
        have qk0 := hst.qc0
        have qk1 := hst.qc1
        have v0 : x0.length ≤ 1000 := by omega
        have v1 : x1.length ≤ 1000 := by omega
        obtain ⟨t0, ht0⟩ : ∃ st, Hid (str (Sh.sum x0) = st) := ⟨_, rfl⟩
        obtain ⟨t1, ht1⟩ : ∃ st, Hid (str (Sh.sum x1) = st) := ⟨_, rfl⟩
        have e0 : (t0.toList == t0.toList) = true := by simp
        have e1 : (t1.toList == t1.toList) = true := by simp
        go_wp2_with (fail)
        go_region_held3 (fun w' => St w w' P Q g0 g1 a0 a1 n0 n1 c0 c1 x0 x1 x0 x1 ∧ w'.cell? ⟨P, 0, none⟩ = some (.pointer (some ⟨g0, 0, none⟩)) ∧ w'.cell? ⟨P, 1, none⟩ = some (.pointer (some ⟨g1, 0, none⟩)) ∧ w'.cell? ⟨Q, 0, none⟩ = some (.slice (some ⟨a0, 0, none⟩) n0 c0) ∧ w'.cell? ⟨Q, 1, none⟩ = some (.slice (some ⟨a1, 0, none⟩) n1 c1))
          (first
            | exact St.all (by assumption)
            | (go_split_ands; exact St.all (by assumption))
            | exact St.all (St.drewN (by assumption) 1))
          (first
            | (go_at_call 18; go_split_ands; refine (st_sum0 (by assumption) hL v0 t0 ht0).mono ?_; rintro e w7 ⟨rfl, hb7, hs7⟩)
            | (go_at_call 18; go_split_ands; refine (st_sum1 (by assumption) hL v1 t1 ht1).mono ?_; rintro e w8 ⟨rfl, hb8, hs8⟩)
            | (go_at_call 19; go_split_ands; refine (st_ref0 (by assumption) v0 t0 ht0).mono ?_; rintro e w9 ⟨rfl, hb9, hs9⟩)
            | (go_at_call 19; go_split_ands; refine (st_ref1 (by assumption) v1 t1 ht1).mono ?_; rintro e w10 ⟨rfl, hb10, hs10⟩))
        all_goals
          have hfin := hidIt hs10.bel
          go_wp2_with (fail)
          go_ret
          exact ⟨rfl, hfin.out⟩
end Go.Proofs.YtpfekbbmbdegbaaDoor
