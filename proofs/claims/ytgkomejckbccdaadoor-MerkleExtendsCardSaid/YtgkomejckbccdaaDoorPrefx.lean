import Derived.Test.YtgkomejckbccdaaDoorReach
import Derived.Test.YtgkomejckbccdaaDoorRefD
import Derived.Test.YtgkomejckbccdaaDoorAwkP
import Derived.Test.YtgkomejckbccdaaDoorPerm
namespace Go.Proofs.YtgkomejckbccdaaDoor.Mk
theorem both_len {e : Bool} {P : List ByteArray} {old : ByteArray} (R : Nat → Nat → ByteArray) (l : Nat) : ∀ f m n kn, 1 ≤ m → m ≤ n → ((both e P old l m n kn).2.2 = true ↔ l = (proof R f n m kn).length) := by
  induction l with
  | zero =>
    intro f m n kn h1 hm
    unfold both
    by_cases hmn : m = n
    · subst hmn
      cases kn with
      | true => rw [if_pos ⟨rfl, rfl⟩, proof_known]; simp
      | false => rw [if_neg (fun h => by cases h.2), proof_open]; simp
    · rw [if_neg (fun h => hmn h.1)]
      by_cases hs : m ≤ spl n
      · rw [proof_left _ _ _ _ _ (by omega) hmn hs]; simp
      · rw [proof_right _ _ _ _ _ (by omega) hmn hs]; simp
  | succ l ih =>
    intro f m n kn h1 hm
    unfold both
    by_cases hmn : m = n
    · subst hmn
      rw [if_pos rfl]
      cases kn with
      | true => rw [if_pos rfl, proof_known]; simp
      | false =>
        rw [if_neg (by decide), proof_open]
        by_cases hl : l = 0
        · subst hl; rw [if_pos rfl]; simp
        · rw [if_neg hl]
          cases e <;> simp <;> omega
    · rw [if_neg hmn]
      have h2 : 2 ≤ n := by omega
      have hk := spl_lt h2
      by_cases hs : m ≤ spl n
      · rw [if_pos hs, proof_left _ _ _ _ _ h2 hmn hs, List.length_append, List.length_singleton]
        have := ih f m (spl n) kn h1 hs
        simp only
        rw [this]; omega
      · rw [if_neg hs, proof_right _ _ _ _ _ h2 hmn hs, List.length_append, List.length_singleton]
        have := ih (f + spl n) (m - spl n) (n - spl n) false (by omega) (by omega)
        simp only
        rw [this]; omega
theorem both_full {P : List ByteArray} {old r s : ByteArray} {e : Bool} {l m : Nat} (h : both e P old l m m true = (r, s, true)) : r = old ∧ s = old := by
  cases l with
  | zero => unfold both at h; rw [if_pos ⟨rfl, rfl⟩] at h; exact ⟨(Prod.mk.inj h).1.symm, (Prod.mk.inj (Prod.mk.inj h).2).1.symm⟩
  | succ l => unfold both at h; rw [if_pos rfl, if_pos rfl] at h; exact absurd (Prod.mk.inj (Prod.mk.inj h).2).2 (by decide)
theorem both_same {P : List ByteArray} {old r s : ByteArray} {l m : Nat} {kn : Bool} (h : both false P old l m m kn = (r, s, true)) : r = s := by
  cases kn with
  | true => have := both_full h; rw [this.1, this.2]
  | false =>
    cases l with
    | zero => unfold both at h; rw [if_neg (fun h => by cases h.2)] at h; exact absurd (Prod.mk.inj (Prod.mk.inj h).2).2 (by decide)
    | succ l =>
      unfold both at h
      rw [if_pos rfl, if_neg (by decide)] at h
      by_cases hl : l = 0
      · rw [if_pos hl] at h; rw [← (Prod.mk.inj h).1, ← (Prod.mk.inj (Prod.mk.inj h).2).1]
      · rw [if_neg hl, if_neg (by decide)] at h; exact absurd (Prod.mk.inj (Prod.mk.inj h).2).2 (by decide)
theorem root_take_mid {ss : List ByteArray} {m : Nat} (h2 : 2 ≤ ss.length) (hm : m ≤ ss.length) (hk : spl ss.length < m) : root (ss.take m) = node (root (ss.take (spl ss.length))) (root ((ss.drop (spl ss.length)).take (m - spl ss.length))) := by
  have hp := spl_pos ss.length
  have hl : (ss.take m).length = m := by rw [List.length_take]; omega
  rw [root_more (by omega), hl, spl_mid hk hm h2, List.take_take, Nat.min_eq_left (by omega), List.drop_take]
end Go.Proofs.YtgkomejckbccdaaDoor.Mk
namespace Go.Proofs.YtgkomejckbccdaaDoor
open Go.RowKit
theorem both32 {e : Bool} {old : ByteArray} {P : List ByteArray} (ho : old.size = 32) (hP : ∀ s ∈ P, s.size = 32) (l : Nat) : ∀ m n kn, l ≤ P.length → (Mk.both e P old l m n kn).2.2 = true → (Mk.both e P old l m n kn).1.size = 32 ∧ (Mk.both e P old l m n kn).2.1.size = 32 := by
  have hg : ∀ i, i < P.length → (P.getD i ByteArray.empty).size = 32 := fun i hi => by
    have := hP P[i] (List.getElem_mem hi)
    simpa [List.getD, hi] using this
  induction l with
  | zero =>
    intro m n kn _ h
    unfold Mk.both at h ⊢
    split
    · exact ⟨ho, ho⟩
    · rename_i h2; rw [if_neg h2] at h; cases h
  | succ l ih =>
    intro m n kn hl h
    unfold Mk.both at h ⊢
    split
    · rename_i h2
      rw [if_pos h2] at h
      split
      · exact ⟨ho, ho⟩
      · rename_i h3
        rw [if_neg h3] at h
        split
        · exact ⟨hg 0 (by omega), hg 0 (by omega)⟩
        · rename_i h4
          rw [if_neg h4] at h
          split
          · exact ⟨hg l (by omega), hg l (by omega)⟩
          · rename_i h5; rw [if_neg h5] at h; cases h
    · rename_i h2
      rw [if_neg h2] at h
      split
      · rename_i h3
        rw [if_pos h3] at h
        exact ⟨(ih _ _ _ (by omega) h).1, Mk.node_size _ _⟩
      · exact ⟨Mk.node_size _ _, Mk.node_size _ _⟩
set_option maxRecDepth 100000 in
set_option maxHeartbeats 1000000 in
theorem prefixed_rec (aP : Option Addr) (nP capP : Nat) (P : List ByteArray) (x : ByteArray) (hP : ∀ s ∈ P, s.size = 32) (hx : x.size = 32) (hnP : nP ≤ 1000) (q : Nat) : ∀ (ss : List ByteArray) (m l : Nat) (kn : Bool) (r s : ByteArray) (a : Option Addr) (n cap : Nat) (w : World), n ≤ q → 1 ≤ m → m ≤ n → n ≤ 1000 → l ≤ nP → (∀ s ∈ ss, s.size = 32) → Hid (Mk.both false P x l m n kn = (r, s, true)) → Laid w → Hid (RdS w a n cap ss) → Hid (RdS w aP nP capP P) →
    Calls Tryd.prog 73 #[.slice a n cap, .int .i64 (m : Int), .bool kn, .string x, .slice aP l capP] w fun e w' => (∃ t : Bool, e = .returned (.tuple #[.string s, .bool t])) ∧ Below w.heap.size w w' := by
  have hPr : Sr P := fun s hs => by rw [hP s hs]; decide
  induction q with
  | zero => intro ss m l kn r s a n cap w h1 h2; omega
  | succ q ih =>
    intro ss m l kn r s a n cap w hq h1 hmn hbig hl hS hu hL hR hRP
    have hSr : Sr ss := fun s hs => by rw [hS s hs]; decide
    have hln : Hid (n = ss.length) := hR.out.len
    have hB0 := Below.refl w.heap.size w
    by_cases hm : m = n
    · subst hm
      obtain ⟨rt, hrt⟩ : ∃ v, Hid (Mk.root ss = v) := ⟨_, rfl⟩
      have dR : Hid (∀ W, Below w.heap.size w W → Calls Tryd.prog 23 #[.slice a m cap] W fun e w' => e = .returned (.string rt) ∧ Below W.heap.size W w') := fun W hW =>
        refroot_rec m ss rt a m cap W hrt (Nat.le_refl _) (by omega) hSr (hL.below hW hL.two) (hR.out.below hW)
      cases kn with
      | true =>
        have hxs : s = x := (Mk.both_full hu.out).2
        subst hxs
        obtain ⟨b1, hb1⟩ : ∃ b, (s.toList == rt.toList) = b := ⟨_, rfl⟩
        clear ih hu hR hRP hrt
        go_enter Tryd.func73, Tryd.ntmps73
        go_wp2_with (fail)
        refine (dR.out _ hB0).mono ?_
        rintro e w1 ⟨rfl, hb2⟩
        go_wp2_with (fail)
        go_ret2
        exact ⟨⟨b1, rfl⟩, hb2⟩
      | false =>
        have hu2 := hu.out
        cases l with
        | zero => exfalso; unfold Mk.both at hu2; rw [if_neg (fun h => by cases h.2)] at hu2; exact absurd (Prod.mk.inj (Prod.mk.inj hu2).2).2 (by decide)
        | succ l =>
          have hl0 : l = 0 := by
            rcases Nat.eq_zero_or_pos l with h | h
            · exact h
            · exfalso; unfold Mk.both at hu2; rw [if_pos rfl, if_neg (by decide), if_neg (by omega), if_neg (by decide)] at hu2; exact absurd (Prod.mk.inj (Prod.mk.inj hu2).2).2 (by decide)
          have hs0 : Hid (P.getD 0 ByteArray.empty = s) := by
            unfold Mk.both at hu2; rw [if_pos rfl, if_neg (by decide), if_pos hl0] at hu2
            exact (Prod.mk.inj (Prod.mk.inj hu2).2).1
          obtain ⟨ll, hll⟩ : ∃ z, Hid (l + 1 = z) := ⟨_, rfl⟩
          have hq0 : 0 < ll := by have := hll.out; omega
          rw [hll.out]
          obtain ⟨bp, op, rfl, hc⟩ := hRP.out.cell (i := 0) (by omega) hs0.out
          rw [Nat.add_zero] at hc
          have hc2 := hidIt hc
          obtain ⟨b1, hb1⟩ : ∃ b, (s.toList == rt.toList) = b := ⟨_, rfl⟩
          clear ih hu hu2 hR hRP hrt hc
          have hc := hc2.out
          go_enter Tryd.func73, Tryd.ntmps73
          go_wp2_with (fail)
          go_region_held3 (fun W => Below w.heap.size w W ∧ W.cell? ⟨bp, op, none⟩ = some (.string s))
            (first
              | (exact ⟨by assumption, by assumption⟩)
              | (go_split_ands; exact ⟨by assumption, by assumption⟩)
              | (go_split_ands; exact ⟨Below.drew (by assumption), by assumption⟩)
              | (go_split_ands; exact ⟨below_then (by assumption) (by assumption), ((below_then (by assumption) (by assumption) : Below w.heap.size w _).cell (p := ⟨bp, op, none⟩) (bytes_lt hc2.out)).trans hc2.out⟩))
            (first
              | (go_at_call 23; (with_reducible refine Calls.mono (dR.out _ ?_) ?_); (focus (go_split_ands; assumption)); rintro e w7 ⟨rfl, hb7⟩))
          have hB7 : Hid (Below w.heap.size w w7) := by show Below _ _ _; go_split_ands; assumption
          go_wp2
          go_ret2
          exact ⟨⟨b1, rfl⟩, hB7.out⟩
    · have h2 : 2 ≤ n := by omega
      have t1 : ((m : Int) == (n : Int)) = false := by simp; omega
      have hu2 := hu.out
      clear hu
      cases l with
      | zero => exfalso; unfold Mk.both at hu2; rw [if_neg (fun h => hm h.1)] at hu2; exact absurd (Prod.mk.inj (Prod.mk.inj hu2).2).2 (by decide)
      | succ l =>
      obtain ⟨ll, hll⟩ : ∃ z, Hid (l + 1 = z) := ⟨_, rfl⟩
      rw [hll.out]
      unfold Mk.both at hu2
      obtain ⟨k, hk⟩ : ∃ k, Hid (Mk.spl n = k) := ⟨_, rfl⟩
      obtain ⟨j2, hj2⟩ : ∃ m, Hid (n - k = m) := ⟨_, rfl⟩
      obtain ⟨c, hc⟩ : ∃ c, Hid (cap - k = c) := ⟨_, rfl⟩
      obtain ⟨a2, ha2⟩ : ∃ a2, Hid ((if cap = k then a else a.map fun x => x.add k) = a2) := ⟨_, rfl⟩
      obtain ⟨u, hru⟩ : ∃ x, Hid (Mk.root (ss.take k) = x) := ⟨_, rfl⟩
      obtain ⟨v, hrv⟩ : ∃ y, Hid (Mk.root (ss.drop k) = y) := ⟨_, rfl⟩
      obtain ⟨y, hy⟩ : ∃ y, Hid (P.getD l ByteArray.empty = y) := ⟨_, rfl⟩
      have hlP : Hid (l < P.length) := by show _ < _; have := hRP.out.len; omega
      have y32 : Hid (y.size = 32) := by
        show _ = _
        rw [← hy.out]
        exact getD_sum hP hlP.out
      have u32 : Hid (u.size = 32) := by show _ = _; rw [← hru.out]; exact Mk.root_sum fun s hs => hS s (List.mem_of_mem_take hs)
      have v32 : Hid (v.size = 32) := by show _ = _; rw [← hrv.out]; exact Mk.root_sum fun s hs => hS s (List.mem_of_mem_drop hs)
      have hkl : Hid (k < n) := by show _ < _; rw [← hk.out]; exact Mk.spl_lt h2
      have hkp : Hid (0 < k) := by show _ < _; rw [← hk.out]; exact Mk.spl_pos n
      have sl1 := fun W => sliceSH a n cap k (by have := hkl.out; have := hR.out.cap; omega) W
      have sl2 := fun W => sliceSL a n cap k (by have := hkl.out; omega) W
      rw [ha2.out, hj2.out, hc.out] at sl2
      have hR1 : Hid (RdS w a k cap (ss.take k)) := hR.out.take (by have := hkl.out; omega)
      have hR2 : Hid (RdS w a2 j2 c (ss.drop k)) := hR.out.drop hj2.out hc.out ha2.out
      have sl3 := fun W => sliceSH aP ll capP l (by have := hll.out; have := hRP.out.cap; omega) W
      obtain ⟨b, o, rfl, hcell⟩ := hRP.out.cell (i := l) (by omega) hy.out
      have z0 : (0 : Int) ≤ (l : Int) := by omega
      have z1 : (l : Int) < (ll : Int) := by have := hll.out; omega
      have s1 : (ll : Int) - 1 = (l : Int) := by have := hll.out; omega
      have s2 : IntKind.i64.wrap (l : Int) = (l : Int) := IntWalk.i64_in _ (by omega)
      have y0 : (0 : Int) ≤ (k : Int) := by omega
      have y1 : (k : Int) ≤ (n : Int) := by have := hkl.out; omega
      rw [if_neg hm, hk.out, hy.out] at hu2
      have dU : Hid (∀ W, Below w.heap.size w W → Calls Tryd.prog 23 #[.slice a k cap] W fun e w' => e = .returned (.string u) ∧ Below W.heap.size W w') := fun W hW =>
        refroot_rec k (ss.take k) u a k cap W hru (Nat.le_refl _) (by have := hkl.out; omega) (hSr.take k) (hL.below hW hL.two) (hR1.out.below hW)
      have dV : Hid (∀ W, Below w.heap.size w W → Calls Tryd.prog 23 #[.slice a2 j2 c] W fun e w' => e = .returned (.string v) ∧ Below W.heap.size W w') := fun W hW =>
        refroot_rec j2 (ss.drop k) v a2 j2 c W hrv (Nat.le_refl _) (by have := hj2.out; omega) (hSr.drop k) (hL.below hW hL.two) (hR2.out.below hW)
      by_cases his : m ≤ k
      · obtain ⟨⟨r1, s1', ok⟩, hur⟩ : ∃ z, Hid (Mk.both false P x l m k kn = z) := ⟨_, rfl⟩
        rw [if_pos his, hur.out] at hu2
        obtain ⟨rfl, h3⟩ := Prod.mk.inj hu2
        obtain ⟨hnode, hok⟩ := Prod.mk.inj h3
        have hok2 : ok = true := hok
        subst hok2
        have hnode2 : Hid (Mk.node s1' y = s) := hnode
        have z32 : Hid (s1'.size = 32) := by
          show _ = _
          have h9 := both32 (e := false) hx hP l m k kn (by have := hlP.out; omega) (by rw [hur.out])
          rw [hur.out] at h9; exact h9.2
        have dT : Hid (∀ W, Below w.heap.size w W → Calls Tryd.prog 73 #[.slice a k cap, .int .i64 (m : Int), .bool kn, .string x, .slice (some ⟨b, o, none⟩) l capP] W fun e w' => (∃ t : Bool, e = .returned (.tuple #[.string s1', .bool t])) ∧ Below W.heap.size W w') := fun W hW =>
          ih (ss.take k) m l kn r1 s1' a k cap W (by have := hkl.out; omega) h1 his (by have := hkl.out; omega) (by omega) (fun s hs => hS s (List.mem_of_mem_take hs)) hur (hL.below hW hL.two) (hR1.out.below hW) (hRP.out.below hW)
        have dN : Hid (∀ W, Below w.heap.size w W → Calls Tryd.prog 20 #[.string s1', .string y] W fun e w' => e = .returned (.string s) ∧ Below W.heap.size W w') := fun W hW =>
          refnodez_any s1' y s hnode2.out (by rw [z32.out]; decide) (by rw [y32.out]; decide) W (hL.below hW hL.two)
        obtain ⟨p1, hp1⟩ : ∃ z, Hid (mark1 ++ s1' = z) := ⟨_, rfl⟩
        obtain ⟨p2, hp2⟩ : ∃ z, Hid (p1 ++ y = z) := ⟨_, rfl⟩
        obtain ⟨p3, hp3⟩ : ∃ z, Hid (mark1 ++ u = z) := ⟨_, rfl⟩
        obtain ⟨p4, hp4⟩ : ∃ z, Hid (p3 ++ v = z) := ⟨_, rfl⟩
        have m1s : mark1.size = 1 := rfl
        have f1 : ∀ W, (Op.stringOp .add ({ data := #[1] } : ByteArray) s1').run Tryd.prog W = .ok (.string p1) W := fun W => by rw [← hp1.out]; exact add_str mark1 s1' (by rw [m1s, z32.out]; decide) W
        have p1s : p1.size = 33 := by rw [← hp1.out, ByteArray.size_append, m1s, z32.out]
        have f2 : ∀ W, (Op.stringOp .add p1 y).run Tryd.prog W = .ok (.string p2) W := fun W => by rw [← hp2.out]; exact add_str p1 y (by rw [p1s, y32.out]; decide) W
        have p2s : p2.size = 65 := by rw [← hp2.out, ByteArray.size_append, p1s, y32.out]
        have f3 : ∀ W, (Op.stringOp .add ({ data := #[1] } : ByteArray) u).run Tryd.prog W = .ok (.string p3) W := fun W => by rw [← hp3.out]; exact add_str mark1 u (by rw [m1s, u32.out]; decide) W
        have p3s : p3.size = 33 := by rw [← hp3.out, ByteArray.size_append, m1s, u32.out]
        have f4 : ∀ W, (Op.stringOp .add p3 v).run Tryd.prog W = .ok (.string p4) W := fun W => by rw [← hp4.out]; exact add_str p3 v (by rw [p3s, v32.out]; decide) W
        have p4s : p4.size = 65 := by rw [← hp4.out, ByteArray.size_append, p3s, v32.out]
        obtain ⟨cb, hcb⟩ : ∃ z, Hid (coll p2 p4 = z) := ⟨_, rfl⟩
        have dC : Hid (∀ W, Below w.heap.size w W → Calls Tryd.prog 49 #[.string p2, .string p4] W fun e w' => e = .returned (.bool cb) ∧ Below W.heap.size W w') := fun W _ =>
          collides_any p2 p4 cb hcb (by rw [p2s]; decide) (by rw [p4s]; decide) W
        have t2 : (m : Int) ≤ (k : Int) := by omega
        clear ih hR hR1 hR2 hRP hur hu2 hnode hnode2 hok h3 hru hrv hy hj2 hc ha2 hp1 hp2 hp3 hp4 p1s p2s p3s p4s m1s hln hm hS hSr hP hPr hlP hcb
        go_enter Tryd.func73, Tryd.ntmps73
        go_wp2_with (fail)
        refine (refsplitz_any n k hk.out h2 (by omega) _).mono ?_
        rintro e w1 ⟨rfl, rfl⟩
        go_wp2_with (fail)
        go_quiet (fail)
        obtain ⟨wp, hwp⟩ : ∃ wq, Hid (w.drewN nq = wq) := ⟨_, rfl⟩
        rw [hwp.out]
        have hBq0 : Hid (Below w.heap.size w wp) := by show Below _ _ _; rw [← hwp.out]; exact below_drewN (Below.refl w.heap.size w) nq
        clear hwp hcell
        go_wp2_with (fail)
        refine (dT.out _ hBq0.out).mono ?_
        rintro e w2 ⟨⟨t, rfl⟩, hb2⟩
        have B2 := below_then hBq0.out hb2
        clear hb2 hBq0
        cases t with
        | true =>
          go_wp2_with (fail)
          refine wp_region_held_drew (S := fun W => Below w.heap.size w W) (by kernel_rfl) (Below.drew B2) (fun hHeld => ?_)
          refine wpAnyH_take_at (i := 0) (some 67) (.string s1') rfl rfl (by kernel_rfl) (by kernel_rfl) (by kernel_rfl) (fun _ _ _ h => h) (Or.inl ⟨by rfl, ?_⟩) hHeld ?_
          · (intro w hSw; (try dsimp only at hSw); go_simp)
          simp only [Act.put, List.setIfInBounds_toArray, List.set_cons_zero, List.set_cons_succ]
          refine wpAnyH_take_at (i := 1) (some 68) (.string y) rfl rfl (by kernel_rfl) (by kernel_rfl) (by kernel_rfl) (fun _ _ _ h => h) (Or.inl ⟨by rfl, ?_⟩) hHeld ?_
          · (intro w hSw; (try dsimp only at hSw); go_simp)
          simp only [Act.put, List.setIfInBounds_toArray, List.set_cons_zero, List.set_cons_succ]
          refine wpAnyH_take_at (i := 3) (some 70) (.bool true) rfl rfl (by kernel_rfl) (by kernel_rfl) (by kernel_rfl) (fun _ _ _ h => h) (Or.inl ⟨by rfl, ?_⟩) hHeld ?_
          · (intro w hSw; (try dsimp only at hSw); go_simp)
          simp only [Act.put, List.setIfInBounds_toArray, List.set_cons_zero, List.set_cons_succ]
          refine wpAnyH_only (i := 2) (by kernel_rfl) rfl (by rfl) (fun K hK => ?_)
          go_simp
          (with_reducible refine Calls.mono (dN.out _ ?_) ?_)
          · exact hHeld
          rintro e w7 ⟨rfl, hb7⟩
          have hHeld7 := below_then hHeld hb7
          refine hK.out _ _ hHeld7 ?_
          clear hHeld
          have hHeld := hHeld7
          try simp only [Act.put, List.setIfInBounds_toArray, List.set_cons_zero, List.set_cons_succ]
          refine wpAnyH_take_at (i := 4) (some 71) (.bool true) rfl rfl (by kernel_rfl) (by kernel_rfl) (by kernel_rfl) (fun _ _ _ h => h) (Or.inl ⟨by rfl, ?_⟩) hHeld ?_
          · (intro w hSw; (try dsimp only at hSw); go_simp)
          simp only [Act.put, List.setIfInBounds_toArray, List.set_cons_zero, List.set_cons_succ]
          refine wpAnyH_take_at (i := 5) (some 72) (undef) rfl rfl (by kernel_rfl) (by kernel_rfl) (by kernel_rfl) (fun _ _ _ h => h) (Or.inr ⟨by rfl, rfl⟩) hHeld ?_
          simp only [Act.put, List.setIfInBounds_toArray, List.set_cons_zero, List.set_cons_succ]
          refine wpAnyH_take_at (i := 6) (some 73) (undef) rfl rfl (by kernel_rfl) (by kernel_rfl) (by kernel_rfl) (fun _ _ _ h => h) (Or.inr ⟨by rfl, rfl⟩) hHeld ?_
          simp only [Act.put, List.setIfInBounds_toArray, List.set_cons_zero, List.set_cons_succ]
          refine wpAnyH_take_at (i := 7) (some 74) (undef) rfl rfl (by kernel_rfl) (by kernel_rfl) (by kernel_rfl) (fun _ _ _ h => h) (Or.inr ⟨by rfl, rfl⟩) hHeld ?_
          simp only [Act.put, List.setIfInBounds_toArray, List.set_cons_zero, List.set_cons_succ]
          refine wpAnyH_take_at (i := 8) (some 75) (undef) rfl rfl (by kernel_rfl) (by kernel_rfl) (by kernel_rfl) (fun _ _ _ h => h) (Or.inr ⟨by rfl, rfl⟩) hHeld ?_
          simp only [Act.put, List.setIfInBounds_toArray, List.set_cons_zero, List.set_cons_succ]
          refine wpAnyH_take_at (i := 9) (some 76) (undef) rfl rfl (by kernel_rfl) (by kernel_rfl) (by kernel_rfl) (fun _ _ _ h => h) (Or.inr ⟨by rfl, rfl⟩) hHeld ?_
          simp only [Act.put, List.setIfInBounds_toArray, List.set_cons_zero, List.set_cons_succ]
          refine wpAnyH_take_at (i := 10) (some 77) (undef) rfl rfl (by kernel_rfl) (by kernel_rfl) (by kernel_rfl) (fun _ _ _ h => h) (Or.inr ⟨by rfl, rfl⟩) hHeld ?_
          simp only [Act.put, List.setIfInBounds_toArray, List.set_cons_zero, List.set_cons_succ]
          refine wpAnyH_take_at (i := 11) (some 78) (undef) rfl rfl (by kernel_rfl) (by kernel_rfl) (by kernel_rfl) (fun _ _ _ h => h) (Or.inr ⟨by rfl, rfl⟩) hHeld ?_
          simp only [Act.put, List.setIfInBounds_toArray, List.set_cons_zero, List.set_cons_succ]
          refine wpAnyH_take_at (i := 12) (some 79) (undef) rfl rfl (by kernel_rfl) (by kernel_rfl) (by kernel_rfl) (fun _ _ _ h => h) (Or.inr ⟨by rfl, rfl⟩) hHeld ?_
          simp only [Act.put, List.setIfInBounds_toArray, List.set_cons_zero, List.set_cons_succ]
          refine wpAnyH_take_at (i := 13) (some 80) (undef) rfl rfl (by kernel_rfl) (by kernel_rfl) (by kernel_rfl) (fun _ _ _ h => h) (Or.inr ⟨by rfl, rfl⟩) hHeld ?_
          simp only [Act.put, List.setIfInBounds_toArray, List.set_cons_zero, List.set_cons_succ]
          refine wpAnyH_take_at (i := 14) (some 81) (undef) rfl rfl (by kernel_rfl) (by kernel_rfl) (by kernel_rfl) (fun _ _ _ h => h) (Or.inr ⟨by rfl, rfl⟩) hHeld ?_
          simp only [Act.put, List.setIfInBounds_toArray, List.set_cons_zero, List.set_cons_succ]
          refine wpAnyH_take_at (i := 15) (some 82) (undef) rfl rfl (by kernel_rfl) (by kernel_rfl) (by kernel_rfl) (fun _ _ _ h => h) (Or.inr ⟨by rfl, rfl⟩) hHeld ?_
          simp only [Act.put, List.setIfInBounds_toArray, List.set_cons_zero, List.set_cons_succ]
          refine wpAnyH_take_at (i := 16) (some 83) (undef) rfl rfl (by kernel_rfl) (by kernel_rfl) (by kernel_rfl) (fun _ _ _ h => h) (Or.inr ⟨by rfl, rfl⟩) hHeld ?_
          simp only [Act.put, List.setIfInBounds_toArray, List.set_cons_zero, List.set_cons_succ]
          refine wpAnyH_take_at (i := 17) (some 84) (undef) rfl rfl (by kernel_rfl) (by kernel_rfl) (by kernel_rfl) (fun _ _ _ h => h) (Or.inr ⟨by rfl, rfl⟩) hHeld ?_
          simp only [Act.put, List.setIfInBounds_toArray, List.set_cons_zero, List.set_cons_succ]
          refine wpAnyH_take_at (i := 18) (some 85) (undef) rfl rfl (by kernel_rfl) (by kernel_rfl) (by kernel_rfl) (fun _ _ _ h => h) (Or.inr ⟨by rfl, rfl⟩) hHeld ?_
          simp only [Act.put, List.setIfInBounds_toArray, List.set_cons_zero, List.set_cons_succ]
          refine wpAnyH_take_at (i := 19) (some 86) (undef) rfl rfl (by kernel_rfl) (by kernel_rfl) (by kernel_rfl) (fun _ _ _ h => h) (Or.inr ⟨by rfl, rfl⟩) hHeld ?_
          simp only [Act.put, List.setIfInBounds_toArray, List.set_cons_zero, List.set_cons_succ]
          refine wpAnyH_take_at (i := 20) (some 87) (.bool true) rfl rfl (by kernel_rfl) (by kernel_rfl) (by kernel_rfl) (fun _ _ _ h => h) (Or.inl ⟨by rfl, ?_⟩) hHeld ?_
          · (intro w hSw; (try dsimp only at hSw); go_simp)
          simp only [Act.put, List.setIfInBounds_toArray, List.set_cons_zero, List.set_cons_succ]
          refine wpAnyH_take_at (i := 21) (some 10) (.string s) rfl rfl (by kernel_rfl) (by kernel_rfl) (by kernel_rfl) (fun _ _ _ h => h) (Or.inl ⟨by rfl, ?_⟩) hHeld ?_
          · (intro w hSw; (try dsimp only at hSw); go_simp)
          simp only [Act.put, List.setIfInBounds_toArray, List.set_cons_zero, List.set_cons_succ]
          refine wpAnyH_take_at (i := 22) (some 11) (.bool true) rfl rfl (by kernel_rfl) (by kernel_rfl) (by kernel_rfl) (fun _ _ _ h => h) (Or.inl ⟨by rfl, ?_⟩) hHeld ?_
          · (intro w hSw; (try dsimp only at hSw); go_simp)
          simp only [Act.put, List.setIfInBounds_toArray, List.set_cons_zero, List.set_cons_succ]
          refine wpAnyH_done (by kernel_rfl) ?_ _
          go_wp2
          go_ret2
          exact ⟨⟨true, rfl⟩, hHeld⟩
        | false =>
          go_wp2_with (fail)
          go_region_held3 (fun W => Below w.heap.size w W)
            (first | assumption | exact Below.drew (by assumption) | exact below_then (by assumption) (by assumption))
            (first
              | (go_at_call 20; (with_reducible refine Calls.mono (dN.out _ ?_) ?_); (focus assumption); rintro e w7 ⟨rfl, hb7⟩)
              | (go_at_call 23; (with_reducible refine Calls.mono (dU.out _ ?_) ?_); (focus assumption); rintro e w8 ⟨rfl, hb8⟩)
              | (go_at_call 23; (with_reducible refine Calls.mono (dV.out _ ?_) ?_); (focus assumption); rintro e w9 ⟨rfl, hb9⟩)
              | (go_at_call 49; (with_reducible refine Calls.mono (dC.out _ ?_) ?_); (focus assumption); rintro e w10 ⟨rfl, hb10⟩))
          all_goals
            have hB7 : Hid (Below w.heap.size w w10) := by show Below _ _ _; assumption
            go_wp2
            go_ret2
            exact ⟨⟨cb, rfl⟩, hB7.out⟩
      · obtain ⟨j, hj⟩ : ∃ j, Hid (m - k = j) := ⟨_, rfl⟩
        obtain ⟨⟨r1, s1', ok⟩, hur⟩ : ∃ z, Hid (Mk.both false P x l j j2 false = z) := ⟨_, rfl⟩
        rw [if_neg his, hj.out, hj2.out, hur.out] at hu2
        have s3 : (m : Int) - (k : Int) = (j : Int) := by have := hj.out; omega
        have s5 : IntKind.i64.wrap (j : Int) = (j : Int) := by have := hj.out; exact IntWalk.i64_in _ (by omega)
        obtain ⟨_, h3⟩ := Prod.mk.inj hu2
        obtain ⟨hnode, hok⟩ := Prod.mk.inj h3
        have hok2 : ok = true := hok
        subst hok2
        have hnode2 : Hid (Mk.node y s1' = s) := hnode
        have z32 : Hid (s1'.size = 32) := by
          show _ = _
          have h9 := both32 (e := false) hx hP l j j2 false (by have := hlP.out; omega) (by rw [hur.out])
          rw [hur.out] at h9; exact h9.2
        have dT : Hid (∀ W, Below w.heap.size w W → Calls Tryd.prog 73 #[.slice a2 j2 c, .int .i64 (j : Int), .bool false, .string x, .slice (some ⟨b, o, none⟩) l capP] W fun e w' => (∃ t : Bool, e = .returned (.tuple #[.string s1', .bool t])) ∧ Below W.heap.size W w') := fun W hW =>
          ih (ss.drop k) j l false r1 s1' a2 j2 c W (by have := hj2.out; have := hkp.out; omega) (by have := hj.out; omega) (by have := hj.out; have := hj2.out; omega) (by have := hj2.out; omega) (by omega) (fun s hs => hS s (List.mem_of_mem_drop hs)) hur (hL.below hW hL.two) (hR2.out.below hW) (hRP.out.below hW)
        have dN : Hid (∀ W, Below w.heap.size w W → Calls Tryd.prog 20 #[.string y, .string s1'] W fun e w' => e = .returned (.string s) ∧ Below W.heap.size W w') := fun W hW =>
          refnodez_any y s1' s hnode2.out (by rw [y32.out]; decide) (by rw [z32.out]; decide) W (hL.below hW hL.two)
        obtain ⟨p1, hp1⟩ : ∃ z, Hid (mark1 ++ y = z) := ⟨_, rfl⟩
        obtain ⟨p2, hp2⟩ : ∃ z, Hid (p1 ++ s1' = z) := ⟨_, rfl⟩
        obtain ⟨p3, hp3⟩ : ∃ z, Hid (mark1 ++ u = z) := ⟨_, rfl⟩
        obtain ⟨p4, hp4⟩ : ∃ z, Hid (p3 ++ v = z) := ⟨_, rfl⟩
        have m1s : mark1.size = 1 := rfl
        have f1 : ∀ W, (Op.stringOp .add ({ data := #[1] } : ByteArray) y).run Tryd.prog W = .ok (.string p1) W := fun W => by rw [← hp1.out]; exact add_str mark1 y (by rw [m1s, y32.out]; decide) W
        have p1s : p1.size = 33 := by rw [← hp1.out, ByteArray.size_append, m1s, y32.out]
        have f2 : ∀ W, (Op.stringOp .add p1 s1').run Tryd.prog W = .ok (.string p2) W := fun W => by rw [← hp2.out]; exact add_str p1 s1' (by rw [p1s, z32.out]; decide) W
        have p2s : p2.size = 65 := by rw [← hp2.out, ByteArray.size_append, p1s, z32.out]
        have f3 : ∀ W, (Op.stringOp .add ({ data := #[1] } : ByteArray) u).run Tryd.prog W = .ok (.string p3) W := fun W => by rw [← hp3.out]; exact add_str mark1 u (by rw [m1s, u32.out]; decide) W
        have p3s : p3.size = 33 := by rw [← hp3.out, ByteArray.size_append, m1s, u32.out]
        have f4 : ∀ W, (Op.stringOp .add p3 v).run Tryd.prog W = .ok (.string p4) W := fun W => by rw [← hp4.out]; exact add_str p3 v (by rw [p3s, v32.out]; decide) W
        have p4s : p4.size = 65 := by rw [← hp4.out, ByteArray.size_append, p3s, v32.out]
        obtain ⟨cb, hcb⟩ : ∃ z, Hid (coll p2 p4 = z) := ⟨_, rfl⟩
        have dC : Hid (∀ W, Below w.heap.size w W → Calls Tryd.prog 49 #[.string p2, .string p4] W fun e w' => e = .returned (.bool cb) ∧ Below W.heap.size W w') := fun W _ =>
          collides_any p2 p4 cb hcb (by rw [p2s]; decide) (by rw [p4s]; decide) W
        have t2 : ¬ (m : Int) ≤ (k : Int) := by omega
        clear ih hR hR1 hR2 hRP hur hu2 hnode hnode2 hok h3 hru hrv hy hj2 hc ha2 hp1 hp2 hp3 hp4 p1s p2s p3s p4s m1s hln hm hS hSr hP hPr hlP hcb hj
        go_enter Tryd.func73, Tryd.ntmps73
        go_wp2_with (fail)
        refine (refsplitz_any n k hk.out h2 (by omega) _).mono ?_
        rintro e w1 ⟨rfl, rfl⟩
        go_wp2_with (fail)
        go_quiet (fail)
        obtain ⟨wp, hwp⟩ : ∃ wq, Hid (w.drewN nq = wq) := ⟨_, rfl⟩
        rw [hwp.out]
        have hBq0 : Hid (Below w.heap.size w wp) := by show Below _ _ _; rw [← hwp.out]; exact below_drewN (Below.refl w.heap.size w) nq
        clear hwp hcell
        go_wp2_with (fail)
        refine (dT.out _ hBq0.out).mono ?_
        rintro e w2 ⟨⟨t, rfl⟩, hb2⟩
        have B2 := below_then hBq0.out hb2
        clear hb2 hBq0
        cases t with
        | true =>
          go_wp2_with (fail)
          refine wp_region_held_drew (S := fun W => Below w.heap.size w W) (by kernel_rfl) (Below.drew B2) (fun hHeld => ?_)
          refine wpAnyH_take_at (i := 0) (some 100) (.string y) rfl rfl (by kernel_rfl) (by kernel_rfl) (by kernel_rfl) (fun _ _ _ h => h) (Or.inl ⟨by rfl, ?_⟩) hHeld ?_
          · (intro w hSw; (try dsimp only at hSw); go_simp)
          simp only [Act.put, List.setIfInBounds_toArray, List.set_cons_zero, List.set_cons_succ]
          refine wpAnyH_take_at (i := 1) (some 101) (.string s1') rfl rfl (by kernel_rfl) (by kernel_rfl) (by kernel_rfl) (fun _ _ _ h => h) (Or.inl ⟨by rfl, ?_⟩) hHeld ?_
          · (intro w hSw; (try dsimp only at hSw); go_simp)
          simp only [Act.put, List.setIfInBounds_toArray, List.set_cons_zero, List.set_cons_succ]
          refine wpAnyH_take_at (i := 3) (some 103) (.bool true) rfl rfl (by kernel_rfl) (by kernel_rfl) (by kernel_rfl) (fun _ _ _ h => h) (Or.inl ⟨by rfl, ?_⟩) hHeld ?_
          · (intro w hSw; (try dsimp only at hSw); go_simp)
          simp only [Act.put, List.setIfInBounds_toArray, List.set_cons_zero, List.set_cons_succ]
          refine wpAnyH_only (i := 2) (by kernel_rfl) rfl (by rfl) (fun K hK => ?_)
          go_simp
          (with_reducible refine Calls.mono (dN.out _ ?_) ?_)
          · exact hHeld
          rintro e w7 ⟨rfl, hb7⟩
          have hHeld7 := below_then hHeld hb7
          refine hK.out _ _ hHeld7 ?_
          clear hHeld
          have hHeld := hHeld7
          try simp only [Act.put, List.setIfInBounds_toArray, List.set_cons_zero, List.set_cons_succ]
          refine wpAnyH_take_at (i := 4) (some 104) (.bool true) rfl rfl (by kernel_rfl) (by kernel_rfl) (by kernel_rfl) (fun _ _ _ h => h) (Or.inl ⟨by rfl, ?_⟩) hHeld ?_
          · (intro w hSw; (try dsimp only at hSw); go_simp)
          simp only [Act.put, List.setIfInBounds_toArray, List.set_cons_zero, List.set_cons_succ]
          refine wpAnyH_take_at (i := 5) (some 105) (undef) rfl rfl (by kernel_rfl) (by kernel_rfl) (by kernel_rfl) (fun _ _ _ h => h) (Or.inr ⟨by rfl, rfl⟩) hHeld ?_
          simp only [Act.put, List.setIfInBounds_toArray, List.set_cons_zero, List.set_cons_succ]
          refine wpAnyH_take_at (i := 6) (some 106) (undef) rfl rfl (by kernel_rfl) (by kernel_rfl) (by kernel_rfl) (fun _ _ _ h => h) (Or.inr ⟨by rfl, rfl⟩) hHeld ?_
          simp only [Act.put, List.setIfInBounds_toArray, List.set_cons_zero, List.set_cons_succ]
          refine wpAnyH_take_at (i := 7) (some 107) (undef) rfl rfl (by kernel_rfl) (by kernel_rfl) (by kernel_rfl) (fun _ _ _ h => h) (Or.inr ⟨by rfl, rfl⟩) hHeld ?_
          simp only [Act.put, List.setIfInBounds_toArray, List.set_cons_zero, List.set_cons_succ]
          refine wpAnyH_take_at (i := 8) (some 108) (undef) rfl rfl (by kernel_rfl) (by kernel_rfl) (by kernel_rfl) (fun _ _ _ h => h) (Or.inr ⟨by rfl, rfl⟩) hHeld ?_
          simp only [Act.put, List.setIfInBounds_toArray, List.set_cons_zero, List.set_cons_succ]
          refine wpAnyH_take_at (i := 9) (some 109) (undef) rfl rfl (by kernel_rfl) (by kernel_rfl) (by kernel_rfl) (fun _ _ _ h => h) (Or.inr ⟨by rfl, rfl⟩) hHeld ?_
          simp only [Act.put, List.setIfInBounds_toArray, List.set_cons_zero, List.set_cons_succ]
          refine wpAnyH_take_at (i := 10) (some 110) (undef) rfl rfl (by kernel_rfl) (by kernel_rfl) (by kernel_rfl) (fun _ _ _ h => h) (Or.inr ⟨by rfl, rfl⟩) hHeld ?_
          simp only [Act.put, List.setIfInBounds_toArray, List.set_cons_zero, List.set_cons_succ]
          refine wpAnyH_take_at (i := 11) (some 111) (undef) rfl rfl (by kernel_rfl) (by kernel_rfl) (by kernel_rfl) (fun _ _ _ h => h) (Or.inr ⟨by rfl, rfl⟩) hHeld ?_
          simp only [Act.put, List.setIfInBounds_toArray, List.set_cons_zero, List.set_cons_succ]
          refine wpAnyH_take_at (i := 12) (some 112) (undef) rfl rfl (by kernel_rfl) (by kernel_rfl) (by kernel_rfl) (fun _ _ _ h => h) (Or.inr ⟨by rfl, rfl⟩) hHeld ?_
          simp only [Act.put, List.setIfInBounds_toArray, List.set_cons_zero, List.set_cons_succ]
          refine wpAnyH_take_at (i := 13) (some 113) (undef) rfl rfl (by kernel_rfl) (by kernel_rfl) (by kernel_rfl) (fun _ _ _ h => h) (Or.inr ⟨by rfl, rfl⟩) hHeld ?_
          simp only [Act.put, List.setIfInBounds_toArray, List.set_cons_zero, List.set_cons_succ]
          refine wpAnyH_take_at (i := 14) (some 114) (undef) rfl rfl (by kernel_rfl) (by kernel_rfl) (by kernel_rfl) (fun _ _ _ h => h) (Or.inr ⟨by rfl, rfl⟩) hHeld ?_
          simp only [Act.put, List.setIfInBounds_toArray, List.set_cons_zero, List.set_cons_succ]
          refine wpAnyH_take_at (i := 15) (some 115) (undef) rfl rfl (by kernel_rfl) (by kernel_rfl) (by kernel_rfl) (fun _ _ _ h => h) (Or.inr ⟨by rfl, rfl⟩) hHeld ?_
          simp only [Act.put, List.setIfInBounds_toArray, List.set_cons_zero, List.set_cons_succ]
          refine wpAnyH_take_at (i := 16) (some 116) (undef) rfl rfl (by kernel_rfl) (by kernel_rfl) (by kernel_rfl) (fun _ _ _ h => h) (Or.inr ⟨by rfl, rfl⟩) hHeld ?_
          simp only [Act.put, List.setIfInBounds_toArray, List.set_cons_zero, List.set_cons_succ]
          refine wpAnyH_take_at (i := 17) (some 117) (undef) rfl rfl (by kernel_rfl) (by kernel_rfl) (by kernel_rfl) (fun _ _ _ h => h) (Or.inr ⟨by rfl, rfl⟩) hHeld ?_
          simp only [Act.put, List.setIfInBounds_toArray, List.set_cons_zero, List.set_cons_succ]
          refine wpAnyH_take_at (i := 18) (some 118) (undef) rfl rfl (by kernel_rfl) (by kernel_rfl) (by kernel_rfl) (fun _ _ _ h => h) (Or.inr ⟨by rfl, rfl⟩) hHeld ?_
          simp only [Act.put, List.setIfInBounds_toArray, List.set_cons_zero, List.set_cons_succ]
          refine wpAnyH_take_at (i := 19) (some 119) (undef) rfl rfl (by kernel_rfl) (by kernel_rfl) (by kernel_rfl) (fun _ _ _ h => h) (Or.inr ⟨by rfl, rfl⟩) hHeld ?_
          simp only [Act.put, List.setIfInBounds_toArray, List.set_cons_zero, List.set_cons_succ]
          refine wpAnyH_take_at (i := 20) (some 120) (.bool true) rfl rfl (by kernel_rfl) (by kernel_rfl) (by kernel_rfl) (fun _ _ _ h => h) (Or.inl ⟨by rfl, ?_⟩) hHeld ?_
          · (intro w hSw; (try dsimp only at hSw); go_simp)
          simp only [Act.put, List.setIfInBounds_toArray, List.set_cons_zero, List.set_cons_succ]
          refine wpAnyH_take_at (i := 21) (some 10) (.string s) rfl rfl (by kernel_rfl) (by kernel_rfl) (by kernel_rfl) (fun _ _ _ h => h) (Or.inl ⟨by rfl, ?_⟩) hHeld ?_
          · (intro w hSw; (try dsimp only at hSw); go_simp)
          simp only [Act.put, List.setIfInBounds_toArray, List.set_cons_zero, List.set_cons_succ]
          refine wpAnyH_take_at (i := 22) (some 11) (.bool true) rfl rfl (by kernel_rfl) (by kernel_rfl) (by kernel_rfl) (fun _ _ _ h => h) (Or.inl ⟨by rfl, ?_⟩) hHeld ?_
          · (intro w hSw; (try dsimp only at hSw); go_simp)
          simp only [Act.put, List.setIfInBounds_toArray, List.set_cons_zero, List.set_cons_succ]
          refine wpAnyH_done (by kernel_rfl) ?_ _
          go_wp2
          go_ret2
          exact ⟨⟨true, rfl⟩, hHeld⟩
        | false =>
          go_wp2_with (fail)
          go_region_held3 (fun W => Below w.heap.size w W)
            (first | assumption | exact Below.drew (by assumption) | exact below_then (by assumption) (by assumption))
            (first
              | (go_at_call 20; (with_reducible refine Calls.mono (dN.out _ ?_) ?_); (focus assumption); rintro e w7 ⟨rfl, hb7⟩)
              | (go_at_call 23; (with_reducible refine Calls.mono (dU.out _ ?_) ?_); (focus assumption); rintro e w8 ⟨rfl, hb8⟩)
              | (go_at_call 23; (with_reducible refine Calls.mono (dV.out _ ?_) ?_); (focus assumption); rintro e w9 ⟨rfl, hb9⟩)
              | (go_at_call 49; (with_reducible refine Calls.mono (dC.out _ ?_) ?_); (focus assumption); rintro e w10 ⟨rfl, hb10⟩))
          all_goals
            have hB7 : Hid (Below w.heap.size w w10) := by show Below _ _ _; assumption
            go_wp2
            go_ret2
            exact ⟨⟨cb, rfl⟩, hB7.out⟩
end Go.Proofs.YtgkomejckbccdaaDoor
