import Derived.Test.YtgkomejckbccdaaDoorColl
namespace Go.Proofs.YtgkomejckbccdaaDoor
open Go.RowKit
theorem up32 {x : ByteArray} {P : List ByteArray} (hx : x.size = 32) (m i n : Nat) : (Mk.up x P x m i n).1.size = 32 := by
  cases m with
  | zero => unfold Mk.up; split <;> exact hx
  | succ m => unfold Mk.up; split
              · exact hx
              · split <;> exact Mk.node_size _ _
set_option maxRecDepth 100000 in
set_option maxHeartbeats 1000000 in
theorem reaches_rec (aP : Option Addr) (nP capP : Nat) (P : List ByteArray) (x : ByteArray) (hP : ∀ s ∈ P, s.size = 32) (hx : x.size = 32) (hnP : nP ≤ 1000) (q : Nat) : ∀ (ss : List ByteArray) (i m : Nat) (a : Option Addr) (n cap : Nat) (w : World), n ≤ q → 1 ≤ n → i < n → n ≤ 1000 → m ≤ nP → (∀ s ∈ ss, s.size = 32) → Hid (Mk.up x P x m i n = (Mk.root ss, true)) → Laid w → Hid (RdS w a n cap ss) → Hid (RdS w aP nP capP P) →
    Calls Tryd.prog 30 #[.slice a n cap, .string x, .int .i64 (i : Int), .slice aP m capP] w fun e w' => e = .returned (.bool true) ∧ Below w.heap.size w w' := by
  have hPr : Sr P := fun s hs => by rw [hP s hs]; decide
  induction q with
  | zero => intro ss i m a n cap w h1 h2; omega
  | succ q ih =>
    intro ss i m a n cap w hq h1 hi hbig hm hS hu hL hR hRP
    have hSr : Sr ss := fun s hs => by rw [hS s hs]; decide
    by_cases hn1 : n = 1
    · subst hn1
      obtain ⟨s, rfl⟩ : ∃ s, ss = [s] := List.length_eq_one_iff.1 hR.out.len.symm
      obtain ⟨b, off, rfl, hc⟩ := hR.out.cell (i := 0) (s := s) (by decide) rfl
      have hxs : x = s := by
        have h5 := hu.out
        cases m with
        | zero => unfold Mk.up at h5; rw [if_pos rfl, Mk.root_one] at h5; exact (Prod.mk.inj h5).1
        | succ m => unfold Mk.up at h5; rw [if_pos rfl, Mk.root_one] at h5; exact (Prod.mk.inj h5).1
      subst hxs
      rw [Nat.add_zero] at hc
      have q1 : (x.toList == x.toList) = true := by simp
      clear ih hu hR hRP
      go_enter Tryd.func30, Tryd.ntmps30
      go_wp2_with (fail)
      go_ret
      exact ⟨rfl, Below.refl _ _⟩
    · have h2 : 2 ≤ n := by omega
      have hln : Hid (n = ss.length) := hR.out.len
      have t1 : ((n : Int) == 1) = false := by simp; omega
      obtain ⟨m', rfl⟩ : ∃ m', m = m' + 1 := by
        cases m with
        | zero => exfalso; have h5 := hu.out; unfold Mk.up at h5; rw [if_neg hn1] at h5; exact absurd (Prod.mk.inj h5).2 (by decide)
        | succ m => exact ⟨m, rfl⟩
      obtain ⟨l, hl⟩ : ∃ l, Hid (m' + 1 = l) := ⟨_, rfl⟩
      obtain ⟨k, hk⟩ : ∃ k, Hid (Mk.spl n = k) := ⟨_, rfl⟩
      obtain ⟨j2, hj2⟩ : ∃ m, Hid (n - k = m) := ⟨_, rfl⟩
      obtain ⟨c, hc⟩ : ∃ c, Hid (cap - k = c) := ⟨_, rfl⟩
      obtain ⟨a2, ha2⟩ : ∃ a2, Hid ((if cap = k then a else a.map fun x => x.add k) = a2) := ⟨_, rfl⟩
      obtain ⟨u, hru⟩ : ∃ x, Hid (Mk.root (ss.take k) = x) := ⟨_, rfl⟩
      obtain ⟨v, hrv⟩ : ∃ y, Hid (Mk.root (ss.drop k) = y) := ⟨_, rfl⟩
      obtain ⟨y, hy⟩ : ∃ y, Hid (P.getD m' ByteArray.empty = y) := ⟨_, rfl⟩
      have y32 : Hid (y.size = 32) := by
        show _ = _
        rw [← hy.out]
        have h5 : m' < P.length := by have := hRP.out.len; omega
        have := hP P[m'] (List.getElem_mem h5)
        simpa [List.getD, h5] using this
      have u32 : Hid (u.size = 32) := by show _ = _; rw [← hru.out]; exact Mk.root_sum fun s hs => hS s (List.mem_of_mem_take hs)
      have v32 : Hid (v.size = 32) := by show _ = _; rw [← hrv.out]; exact Mk.root_sum fun s hs => hS s (List.mem_of_mem_drop hs)
      have hkl : Hid (k < n) := by show _ < _; rw [← hk.out]; exact Mk.spl_lt h2
      have hkp : Hid (0 < k) := by show _ < _; rw [← hk.out]; exact Mk.spl_pos n
      have hroot : Hid (Mk.root ss = Mk.node u v) := by show _ = _; rw [← hru.out, ← hrv.out, Mk.root_more (ls := ss) (by rw [← hln.out]; exact h2), ← hln.out, hk.out]
      have sl1 := fun W => sliceSH a n cap k (by have := hkl.out; have := hR.out.cap; omega) W
      have sl2 := fun W => sliceSL a n cap k (by have := hkl.out; omega) W
      rw [ha2.out, hj2.out, hc.out] at sl2
      have hR1 : Hid (RdS w a k cap (ss.take k)) := hR.out.take (by have := hkl.out; omega)
      have hR2 : Hid (RdS w a2 j2 c (ss.drop k)) := hR.out.drop hj2.out hc.out ha2.out
      have sl3 := fun W => sliceSH aP l capP m' (by have := hl.out; have := hRP.out.cap; omega) W
      obtain ⟨b, o, rfl, hcell⟩ := hRP.out.cell (i := m') (by omega) hy.out
      have z0 : (0 : Int) ≤ (m' : Int) := by omega
      have z1 : (m' : Int) < (l : Int) := by have := hl.out; omega
      have s1 : (l : Int) - 1 = (m' : Int) := by have := hl.out; omega
      have s2 : IntKind.i64.wrap (m' : Int) = (m' : Int) := IntWalk.i64_in _ (by omega)
      have y0 : (0 : Int) ≤ (k : Int) := by omega
      have y1 : (k : Int) ≤ (n : Int) := by have := hkl.out; omega
      have hu2 := hu.out
      clear hu
      unfold Mk.up at hu2
      rw [if_neg hn1, hk.out, hy.out, hroot.out] at hu2
      rw [hl.out]
      have dU : Hid (∀ W, Below w.heap.size w W → Calls Tryd.prog 23 #[.slice a k cap] W fun e w' => e = .returned (.string u) ∧ Below W.heap.size W w') := fun W hW =>
        refroot_rec k (ss.take k) u a k cap W hru (Nat.le_refl _) (by have := hkl.out; omega) (hSr.take k) (hL.below hW hL.two) (hR1.out.below hW)
      have dV : Hid (∀ W, Below w.heap.size w W → Calls Tryd.prog 23 #[.slice a2 j2 c] W fun e w' => e = .returned (.string v) ∧ Below W.heap.size W w') := fun W hW =>
        refroot_rec j2 (ss.drop k) v a2 j2 c W hrv (Nat.le_refl _) (by have := hj2.out; omega) (hSr.drop k) (hL.below hW hL.two) (hR2.out.below hW)
      by_cases his : i < k
      · obtain ⟨⟨r, ok⟩, hur⟩ : ∃ z, Hid (Mk.up x P x m' i k = z) := ⟨_, rfl⟩
        rw [if_pos his, hur.out] at hu2
        obtain ⟨hnode, hok⟩ := Prod.mk.inj hu2
        have hok2 : ok = true := hok
        subst hok2
        have hnode2 : Mk.node r y = Mk.node u v := hnode
        have r32 : Hid (r.size = 32) := by
          show _ = _
          have := up32 (x := x) (P := P) hx m' i k
          rw [hur.out] at this; exact this
        have dR : Hid (∀ W, Below w.heap.size w W → Calls Tryd.prog 66 #[.string x, .int .i64 (i : Int), .int .i64 (k : Int), .slice (some ⟨b, o, none⟩) m' capP] W fun e w' => e = .returned (.string r) ∧ Below W.heap.size W w') := fun W hW =>
          recomp_rec (some ⟨b, o, none⟩) nP capP P x hPr (by rw [hx]; decide) (by omega) m' i k r true W hur hkp.out (by have := hkl.out; omega) his (by omega) (hL.below hW hL.two) (hRP.out.below hW)
        have dT : Hid (∀ W, Below w.heap.size w W → r = u → Calls Tryd.prog 30 #[.slice a k cap, .string x, .int .i64 (i : Int), .slice (some ⟨b, o, none⟩) m' capP] W fun e w' => e = .returned (.bool true) ∧ Below W.heap.size W w') := fun W hW hr =>
          ih (ss.take k) i m' a k cap W (by have := hkl.out; omega) hkp.out his (by have := hkl.out; omega) (by omega) (fun s hs => hS s (List.mem_of_mem_take hs)) (by rw [hru.out, ← hr]; exact hur.out) (hL.below hW hL.two) (hR1.out.below hW) (hRP.out.below hW)
        obtain ⟨p1, hp1⟩ : ∃ z, Hid (mark1 ++ r = z) := ⟨_, rfl⟩
        obtain ⟨p2, hp2⟩ : ∃ z, Hid (p1 ++ y = z) := ⟨_, rfl⟩
        obtain ⟨p3, hp3⟩ : ∃ z, Hid (mark1 ++ u = z) := ⟨_, rfl⟩
        obtain ⟨p4, hp4⟩ : ∃ z, Hid (p3 ++ v = z) := ⟨_, rfl⟩
        have m1s : mark1.size = 1 := rfl
        have f1 : ∀ W, (Op.stringOp .add ({ data := #[1] } : ByteArray) r).run Tryd.prog W = .ok (.string p1) W := fun W => by rw [← hp1.out]; exact add_str mark1 r (by rw [m1s, r32.out]; decide) W
        have p1s : p1.size = 33 := by rw [← hp1.out, ByteArray.size_append, m1s, r32.out]
        have f2 : ∀ W, (Op.stringOp .add p1 y).run Tryd.prog W = .ok (.string p2) W := fun W => by rw [← hp2.out]; exact add_str p1 y (by rw [p1s, y32.out]; decide) W
        have f3 : ∀ W, (Op.stringOp .add ({ data := #[1] } : ByteArray) u).run Tryd.prog W = .ok (.string p3) W := fun W => by rw [← hp3.out]; exact add_str mark1 u (by rw [m1s, u32.out]; decide) W
        have p3s : p3.size = 33 := by rw [← hp3.out, ByteArray.size_append, m1s, u32.out]
        have f4 : ∀ W, (Op.stringOp .add p3 v).run Tryd.prog W = .ok (.string p4) W := fun W => by rw [← hp4.out]; exact add_str p3 v (by rw [p3s, v32.out]; decide) W
        have e1 : Hid (p2 = nstr r y) := by show _ = _; rw [← hp2.out, ← hp1.out]; rfl
        have e2 : Hid (p4 = nstr u v) := by show _ = _; rw [← hp4.out, ← hp3.out]; rfl
        have dC : Hid (p2 ≠ p4 → ∀ W, Calls Tryd.prog 49 #[.string p2, .string p4] W fun e w' => e = .returned (.bool true) ∧ Below W.heap.size W w') := fun hne W =>
          collides_any p2 p4 true (by show _ = _; rw [e1.out, e2.out]; exact coll_true (by rw [← e1.out, ← e2.out]; exact hne) hnode2) (by rw [e1.out, nstr_size, r32.out, y32.out]; decide) (by rw [e2.out, nstr_size, u32.out, v32.out]; decide) W
        have hin : Hid (p2 = p4 → r = u) := fun h => (nstr_inj (by rw [r32.out, u32.out]) (by rw [← e1.out, ← e2.out]; exact h)).1
        have t2 : (i : Int) < (k : Int) := by omega
        have t2' : ¬ (k : Int) ≤ (i : Int) := by omega
        have hB0 := Below.refl w.heap.size w
        clear ih hR hR1 hR2 hRP hur hu2 hnode hnode2 hok hru hrv hy hj2 hc ha2 e1 e2 hp1 hp2 hp3 hp4 p1s p3s m1s hroot hln hn1 hS hSr hP hPr
        go_enter Tryd.func30, Tryd.ntmps30
        go_wp2_with (fail)
        refine (refsplitz_any n k hk.out h2 (by omega) _).mono ?_
        rintro e w1 ⟨rfl, rfl⟩
        go_wp2_with (fail)
        go_quiet (fail)
        obtain ⟨wq, hwq⟩ : ∃ wq, Hid (w.drewN nq = wq) := ⟨_, rfl⟩
        rw [hwq.out]
        have hBq1 : Hid (Below w.heap.size w wq) := by show Below _ _ _; rw [← hwq.out]; exact below_drewN (Below.refl w.heap.size w) nq
        have hcell1 : wq.cell? ⟨b, o + m', none⟩ = some (.string y) := by rw [← hwq.out]; exact hcell
        clear hwq hcell
        go_wp2_with (fail)
        go_quiet (fail)
        go_wp2_with (fail)
        have hBq : Below w.heap.size w _ := below_drewN hBq1.out nq
        refine (dR.out _ hBq).mono ?_
        rintro e w1 ⟨rfl, hb1⟩
        have B1 := hidIt (below_then hBq hb1)
        clear hb1 hBq
        go_wp2_with (fail)
        refine (dU.out _ B1.out).mono ?_
        rintro e w2 ⟨rfl, hb2⟩
        have B2 := hidIt (below_then B1.out hb2)
        clear hb2
        go_wp2_with (fail)
        refine (dV.out _ B2.out).mono ?_
        rintro e w3 ⟨rfl, hb3⟩
        have B3 := hidIt (below_then B2.out hb3)
        clear hb3
        by_cases hpp : p2 = p4
        · have q1 : (p2.toList == p4.toList) = true := by rw [str_beq]; simp [hpp]
          have hrr := hidIt (hin.out hpp)
          clear hpp hin dC
          go_wp2_with (fail)
          refine (dT.out _ B3.out hrr.out).mono ?_
          rintro e w4 ⟨rfl, hb4⟩
          go_wp2_with (fail)
          go_ret
          exact ⟨rfl, below_then B3.out hb4⟩
        · have q1 : (p2.toList == p4.toList) = false := by rw [str_beq]; simp [hpp]
          have dC2 := hidIt (dC.out hpp)
          clear hpp hin dC
          go_wp2_with (fail)
          refine (dC2.out _).mono ?_
          rintro e w4 ⟨rfl, hb4⟩
          go_wp2_with (fail)
          go_ret
          exact ⟨rfl, below_then B3.out hb4⟩
      · obtain ⟨j, hj⟩ : ∃ j, Hid (i - k = j) := ⟨_, rfl⟩
        obtain ⟨⟨r, ok⟩, hur⟩ : ∃ z, Hid (Mk.up x P x m' j j2 = z) := ⟨_, rfl⟩
        rw [if_neg his, hj.out, hj2.out, hur.out] at hu2
        have s3 : (i : Int) - (k : Int) = (j : Int) := by have := hj.out; omega
        have s5 : IntKind.i64.wrap (j : Int) = (j : Int) := by have := hj.out; exact IntWalk.i64_in _ (by omega)
        have jl : Hid (j < j2) := by show _ < _; have := hj.out; have := hj2.out; omega
        obtain ⟨hnode, hok⟩ := Prod.mk.inj hu2
        have hok2 : ok = true := hok
        subst hok2
        have hnode2 : Mk.node y r = Mk.node u v := hnode
        have r32 : Hid (r.size = 32) := by
          show _ = _
          have := up32 (x := x) (P := P) hx m' j j2
          rw [hur.out] at this; exact this
        have dR : Hid (∀ W, Below w.heap.size w W → Calls Tryd.prog 66 #[.string x, .int .i64 (j : Int), .int .i64 (j2 : Int), .slice (some ⟨b, o, none⟩) m' capP] W fun e w' => e = .returned (.string r) ∧ Below W.heap.size W w') := fun W hW =>
          recomp_rec (some ⟨b, o, none⟩) nP capP P x hPr (by rw [hx]; decide) (by omega) m' j j2 r true W hur (by have := jl.out; omega) (by have := hj2.out; omega) jl.out (by omega) (hL.below hW hL.two) (hRP.out.below hW)
        have dT : Hid (∀ W, Below w.heap.size w W → r = v → Calls Tryd.prog 30 #[.slice a2 j2 c, .string x, .int .i64 (j : Int), .slice (some ⟨b, o, none⟩) m' capP] W fun e w' => e = .returned (.bool true) ∧ Below W.heap.size W w') := fun W hW hr =>
          ih (ss.drop k) j m' a2 j2 c W (by have := hj2.out; have := hkp.out; omega) (by have := jl.out; omega) jl.out (by have := hj2.out; omega) (by omega) (fun s hs => hS s (List.mem_of_mem_drop hs)) (by rw [hrv.out, ← hr]; exact hur.out) (hL.below hW hL.two) (hR2.out.below hW) (hRP.out.below hW)
        obtain ⟨p1, hp1⟩ : ∃ z, Hid (mark1 ++ r = z) := ⟨_, rfl⟩
        obtain ⟨p2, hp2⟩ : ∃ z, Hid (p1 ++ y = z) := ⟨_, rfl⟩
        obtain ⟨p3, hp3⟩ : ∃ z, Hid (mark1 ++ v = z) := ⟨_, rfl⟩
        obtain ⟨p4, hp4⟩ : ∃ z, Hid (p3 ++ u = z) := ⟨_, rfl⟩
        have m1s : mark1.size = 1 := rfl
        have f1 : ∀ W, (Op.stringOp .add ({ data := #[1] } : ByteArray) r).run Tryd.prog W = .ok (.string p1) W := fun W => by rw [← hp1.out]; exact add_str mark1 r (by rw [m1s, r32.out]; decide) W
        have p1s : p1.size = 33 := by rw [← hp1.out, ByteArray.size_append, m1s, r32.out]
        have f2 : ∀ W, (Op.stringOp .add p1 y).run Tryd.prog W = .ok (.string p2) W := fun W => by rw [← hp2.out]; exact add_str p1 y (by rw [p1s, y32.out]; decide) W
        have f3 : ∀ W, (Op.stringOp .add ({ data := #[1] } : ByteArray) v).run Tryd.prog W = .ok (.string p3) W := fun W => by rw [← hp3.out]; exact add_str mark1 v (by rw [m1s, v32.out]; decide) W
        have p3s : p3.size = 33 := by rw [← hp3.out, ByteArray.size_append, m1s, v32.out]
        have f4 : ∀ W, (Op.stringOp .add p3 u).run Tryd.prog W = .ok (.string p4) W := fun W => by rw [← hp4.out]; exact add_str p3 u (by rw [p3s, u32.out]; decide) W
        obtain ⟨p5, hp5⟩ : ∃ z, Hid (mark1 ++ y = z) := ⟨_, rfl⟩
        obtain ⟨p6, hp6⟩ : ∃ z, Hid (p5 ++ r = z) := ⟨_, rfl⟩
        obtain ⟨p7, hp7⟩ : ∃ z, Hid (mark1 ++ u = z) := ⟨_, rfl⟩
        obtain ⟨p8, hp8⟩ : ∃ z, Hid (p7 ++ v = z) := ⟨_, rfl⟩
        have f5 : ∀ W, (Op.stringOp .add ({ data := #[1] } : ByteArray) y).run Tryd.prog W = .ok (.string p5) W := fun W => by rw [← hp5.out]; exact add_str mark1 y (by rw [m1s, y32.out]; decide) W
        have p5s : p5.size = 33 := by rw [← hp5.out, ByteArray.size_append, m1s, y32.out]
        have f6 : ∀ W, (Op.stringOp .add p5 r).run Tryd.prog W = .ok (.string p6) W := fun W => by rw [← hp6.out]; exact add_str p5 r (by rw [p5s, r32.out]; decide) W
        have f7 : ∀ W, (Op.stringOp .add ({ data := #[1] } : ByteArray) u).run Tryd.prog W = .ok (.string p7) W := fun W => by rw [← hp7.out]; exact add_str mark1 u (by rw [m1s, u32.out]; decide) W
        have p7s : p7.size = 33 := by rw [← hp7.out, ByteArray.size_append, m1s, u32.out]
        have f8 : ∀ W, (Op.stringOp .add p7 v).run Tryd.prog W = .ok (.string p8) W := fun W => by rw [← hp8.out]; exact add_str p7 v (by rw [p7s, v32.out]; decide) W
        have e1 : Hid (p6 = nstr y r) := by show _ = _; rw [← hp6.out, ← hp5.out]; rfl
        have e2 : Hid (p8 = nstr u v) := by show _ = _; rw [← hp8.out, ← hp7.out]; rfl
        have dC : Hid (p6 ≠ p8 → ∀ W, Calls Tryd.prog 49 #[.string p6, .string p8] W fun e w' => e = .returned (.bool true) ∧ Below W.heap.size W w') := fun hne W =>
          collides_any p6 p8 true (by show _ = _; rw [e1.out, e2.out]; exact coll_true (by rw [← e1.out, ← e2.out]; exact hne) hnode2) (by rw [e1.out, nstr_size, r32.out, y32.out]; decide) (by rw [e2.out, nstr_size, u32.out, v32.out]; decide) W
        have hin : Hid (p6 = p8 → r = v) := fun h => (nstr_inj (x := y) (x' := u) (y := r) (y' := v) (y32.out.trans u32.out.symm) (by rw [← e1.out, ← e2.out]; exact h)).2
        have t2' : (k : Int) ≤ (i : Int) := by omega
        have hB0 := Below.refl w.heap.size w
        clear ih hR hR1 hR2 hRP hur hu2 hnode hnode2 hok hru hrv hy hj2 hc ha2 e1 e2 hp1 hp2 hp3 hp4 p1s p3s p5s p7s hp5 hp6 hp7 hp8 hj m1s hroot hln hn1 hS hSr hP hPr
        go_enter Tryd.func30, Tryd.ntmps30
        go_wp2_with (fail)
        refine (refsplitz_any n k hk.out h2 (by omega) _).mono ?_
        rintro e w1 ⟨rfl, rfl⟩
        go_wp2_with (fail)
        go_quiet (fail)
        obtain ⟨wp, hwp⟩ : ∃ wq, Hid (w.drewN nq = wq) := ⟨_, rfl⟩
        rw [hwp.out]
        have hBq0 : Hid (Below w.heap.size w wp) := by show Below _ _ _; rw [← hwp.out]; exact below_drewN (Below.refl w.heap.size w) nq
        have hcell0 : wp.cell? ⟨b, o + m', none⟩ = some (.string y) := by rw [← hwp.out]; exact hcell
        clear hwp hcell
        go_wp2_with (fail)
        go_quiet (fail)
        obtain ⟨wq, hwq⟩ : ∃ wq, Hid (wp.drewN nq = wq) := ⟨_, rfl⟩
        rw [hwq.out]
        have hBq1 : Hid (Below w.heap.size w wq) := by show Below _ _ _; rw [← hwq.out]; exact below_drewN hBq0.out nq
        have hcell1 : wq.cell? ⟨b, o + m', none⟩ = some (.string y) := by rw [← hwq.out]; exact hcell0
        clear hwq hcell0
        go_wp2_with (fail)
        go_quiet (fail)
        go_wp2_with (fail)
        have hBq : Below w.heap.size w _ := below_drewN hBq1.out nq
        refine (dR.out _ hBq).mono ?_
        rintro e w1 ⟨rfl, hb1⟩
        have B1 := hidIt (below_then hBq hb1)
        clear hb1 hBq
        go_wp2_with (fail)
        refine (dV.out _ B1.out).mono ?_
        rintro e w2 ⟨rfl, hb2⟩
        have B2 := hidIt (below_then B1.out hb2)
        clear hb2
        go_wp2_with (fail)
        refine (dU.out _ B2.out).mono ?_
        rintro e w5 ⟨rfl, hb3⟩
        have B5 := hidIt (below_then B2.out hb3)
        clear hb3 B1 B2
        go_wp2_with (fail)
        refine (dU.out _ B5.out).mono ?_
        rintro e w6 ⟨rfl, hb2⟩
        have B6 := hidIt (below_then B5.out hb2)
        clear hb2
        go_wp2_with (fail)
        refine (dV.out _ B6.out).mono ?_
        rintro e w3 ⟨rfl, hb3⟩
        have B3 := hidIt (below_then B6.out hb3)
        clear hb3
        by_cases hpp : p6 = p8
        · have q1 : (p6.toList == p8.toList) = true := by rw [str_beq]; simp [hpp]
          have hrr := hidIt (hin.out hpp)
          clear hpp hin dC
          go_wp2_with (fail)
          refine (dT.out _ B3.out hrr.out).mono ?_
          rintro e w4 ⟨rfl, hb4⟩
          go_wp2_with (fail)
          go_ret
          exact ⟨rfl, below_then B3.out hb4⟩
        · have q1 : (p6.toList == p8.toList) = false := by rw [str_beq]; simp [hpp]
          have dC2 := hidIt (dC.out hpp)
          clear hpp hin dC
          go_wp2_with (fail)
          refine (dC2.out _).mono ?_
          rintro e w4 ⟨rfl, hb4⟩
          go_wp2_with (fail)
          go_ret
          exact ⟨rfl, below_then B3.out hb4⟩
end Go.Proofs.YtgkomejckbccdaaDoor
