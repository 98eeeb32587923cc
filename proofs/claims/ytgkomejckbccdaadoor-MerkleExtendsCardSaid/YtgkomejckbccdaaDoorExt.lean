import Derived.Test.YtgkomejckbccdaaDoorLawA
import Derived.Test.YtgkomejckbccdaaDoorPrefx
namespace Go.Proofs.YtgkomejckbccdaaDoor
open Go.RowKit
theorem rowS_one (w : World) (s : ByteArray) : (w.alloc (.cells #[.string s] 9)).ownsRow w.heap.size 9 1 (.slice (some ⟨w.heap.size, 0, none⟩) 1 1) 1 (svals [s]) :=
  ⟨rfl, .inr ⟨w.heap.size, 1, #[.string s], rfl, Nat.le_refl _, heap_alloc_new w _, Nat.le_refl _, by unfold maxLen; omega, rfl, rfl⟩⟩
set_option maxRecDepth 100000 in
theorem refproof_rec (q : Nat) : ∀ (ss P : List ByteArray) (i : Nat) (kn : Bool) (a : Option Addr) (n cap : Nat) (w : World), Hid (Mk.proofL ss i kn = P) → n ≤ q → 1 ≤ i → i ≤ n → n ≤ 1000000000 → Sr ss → Laid w → Hid (RdS w a n cap ss) →
    Calls Tryd.prog 70 #[.slice a n cap, .int .i64 (i : Int), .bool kn] w fun e w' => (∃ v, e = .returned v ∧ w'.ownsRow w.heap.size 9 1 v P.length (svals P) ∧ P.length ≤ n) ∧ Below w.heap.size w w' := by
  induction q with
  | zero => intro ss P i kn a n cap w _ h1 h2; omega
  | succ q ih =>
    intro ss P i kn a n cap w hP hq h1 hi hbig hS hL hR
    by_cases hin : i = n
    · subst hin
      have hln : Hid (i = ss.length) := hR.out.len
      cases kn with
      | true =>
        have hnil : P = [] := by rw [← hP.out, Mk.proofL, hln.out, Mk.proof_known]
        subst hnil
        have hb1 : Hid (Below w.heap.size w (w.alloc (.cells #[] 9))) := (Below.refl _ _).alloc (Nat.le_refl _) _
        have ho := hidIt (empty_own w)
        clear ih hR hP
        go_enter Tryd.func70, Tryd.ntmps70
        go_wp2_with (fail)
        go_ret
        exact ⟨⟨_, rfl, ho.out, Nat.zero_le _⟩, hb1.out⟩
      | false =>
        obtain ⟨x, hx⟩ : ∃ x, Hid (Mk.root ss = x) := ⟨_, rfl⟩
        have hone : P = [x] := by rw [← hP.out, Mk.proofL, hln.out, Mk.proof_open, Mk.part_all, hx.out]
        subst hone
        have hi1 : Hid (1 ≤ i) := h1
        clear ih hP
        go_enter Tryd.func70, Tryd.ntmps70
        go_wp2_with (fail)
        refine (refroot_rec i ss x a i cap _ hx (Nat.le_refl _) (by omega) hS hL hR).mono ?_
        rintro e w1 ⟨rfl, hb1⟩
        have ho := hidIt (own_mono (rowS_one w1 x) hb1.size)
        have hb2 : Hid (Below w.heap.size w (w1.alloc (.cells #[.string x] 9))) := below_then hb1 ((Below.refl _ _).alloc (Nat.le_refl _) _)
        clear hb1 hR
        go_wp2_with (fail)
        go_ret
        exact ⟨⟨_, rfl, ho.out, hi1.out⟩, hb2.out⟩
    · obtain ⟨k, hk⟩ : ∃ k, Hid (Mk.spl n = k) := ⟨_, rfl⟩
      obtain ⟨m, hm⟩ : ∃ m, Hid (n - k = m) := ⟨_, rfl⟩
      obtain ⟨c, hc⟩ : ∃ c, Hid (cap - k = c) := ⟨_, rfl⟩
      obtain ⟨a2, ha2⟩ : ∃ a2, Hid ((if cap = k then a else a.map fun x => x.add k) = a2) := ⟨_, rfl⟩
      obtain ⟨x, hx⟩ : ∃ x, Hid (Mk.root (ss.take k) = x) := ⟨_, rfl⟩
      obtain ⟨y, hy⟩ : ∃ y, Hid (Mk.root (ss.drop k) = y) := ⟨_, rfl⟩
      have h2 : 2 ≤ n := by omega
      have hmn' : i ≠ ss.length := by rw [← hR.out.len]; exact hin
      have hln : Hid (n = ss.length) := hR.out.len
      have t1 : ((i : Int) == (n : Int)) = false := by simp; omega
      have hkl : Hid (k < n) := by show _ < _; rw [← hk.out]; exact Mk.spl_lt h2
      have hkp : Hid (0 < k) := by show _ < _; rw [← hk.out]; exact Mk.spl_pos n
      have sl1 := fun W => sliceSH a n cap k (by have := hkl.out; have := hR.out.cap; omega) W
      have sl2 := fun W => sliceSL a n cap k (by have := hkl.out; omega) W
      rw [ha2.out, hm.out, hc.out] at sl2
      have hR1 : Hid (RdS w a k cap (ss.take k)) := hR.out.take (by have := hkl.out; omega)
      have hR2 : Hid (RdS w a2 m c (ss.drop k)) := hR.out.drop hm.out hc.out ha2.out
      have hB0 := Below.refl w.heap.size w
      have hnb : Hid (n ≤ 1000000000) := hbig
      by_cases his : i ≤ k
      · obtain ⟨Q, hQ⟩ : ∃ Q, Hid (Mk.proofL (ss.take k) i kn = Q) := ⟨_, rfl⟩
        have hPQ : Hid (P = Q ++ [y]) := by show _ = _; rw [← hP.out, Mk.proofL_left kn (by rw [← hln.out]; exact h2) h1 hmn' (by rw [← hln.out, hk.out]; exact his), ← hln.out, hk.out, hQ.out, hy.out]
        have d1 : Hid (∀ W, Below w.heap.size w W → Calls Tryd.prog 70 #[.slice a k cap, .int .i64 (i : Int), .bool kn] W fun e w' => (∃ v, e = .returned v ∧ w'.ownsRow W.heap.size 9 1 v Q.length (svals Q) ∧ Q.length ≤ k) ∧ Below W.heap.size W w') := fun W hW =>
          ih (ss.take k) Q i kn a k cap W hQ (by have := hkl.out; omega) h1 his (by have := hkl.out; omega) (hS.take k) (hL.below hW hL.two) (hR1.out.below hW)
        have d2 : Hid (∀ W, Below w.heap.size w W → Calls Tryd.prog 23 #[.slice a2 m c] W fun e w' => e = .returned (.string y) ∧ Below W.heap.size W w') := fun W hW =>
          refroot_rec m (ss.drop k) y a2 m c W hy (Nat.le_refl _) (by have := hm.out; omega) (hS.drop k) (hL.below hW hL.two) (hR2.out.below hW)
        have t2 : (i : Int) ≤ (k : Int) := by omega
        clear ih hS hR hR1 hR2 hP hQ hx hy hm hc ha2 hln hin hmn' hL
        go_enter Tryd.func70, Tryd.ntmps70
        go_wp2_with (fail)
        refine (refsplitz_any n k hk.out h2 (by omega) _).mono ?_
        rintro e w1 ⟨rfl, rfl⟩
        go_wp2_with (fail)
        go_region_held3 (fun W => Below w.heap.size w W)
          (first | assumption | exact Below.drew (by assumption) | exact below_then (by assumption) (by assumption) | exact below_then (by assumption) ((Below.refl _ _).alloc (Nat.le_refl _) _) | exact Below.trans (by assumption) hb9)
          (first
            | (go_at_call 70; (with_reducible refine Calls.mono (d1.out _ ?_) ?_); (focus assumption); rintro e w7 ⟨⟨v, rfl, hown, hlen⟩, hb7⟩)
            | (go_at_call 23; (with_reducible refine Calls.mono (d2.out _ ?_) ?_); (focus assumption); rintro e w8 ⟨rfl, hb8⟩)
            | (refine step_snoc_str _ rfl _ _ rfl _ v Q.length Q rfl (own_belowS hown (below_then hb8 ((Below.refl _ _).alloc (Nat.le_refl _) _))) w8.heap.size y rfl (str_new _ _) (by have := hkl.out; have := hnb.out; omega) (Nat.le_trans hb7.size (Nat.le_trans hb8.size (by simp))) ?_; intro v9 w9 hown9 hb9))
        have hB9 : Hid (Below w.heap.size w w9) := by show Below _ _ _; assumption
        have hlen' := hidIt hlen
        have hown' : Hid (w9.ownsRow w.heap.size 9 1 v9 (Q.length + 1) (svals (Q ++ [y]))) := hown9
        clear hown hown9 hb9 hb8 hb7 hlen
        go_wp2
        go_ret
        exact ⟨⟨v9, rfl, by rw [hPQ.out, List.length_append]; exact hown'.out, by rw [hPQ.out, List.length_append]; have := hlen'.out; have := hkl.out; show _ + 1 ≤ _; omega⟩, hB9.out⟩
      · obtain ⟨j, hj⟩ : ∃ j, Hid (i - k = j) := ⟨_, rfl⟩
        obtain ⟨Q, hQ⟩ : ∃ Q, Hid (Mk.proofL (ss.drop k) j false = Q) := ⟨_, rfl⟩
        have s1 : (i : Int) - (k : Int) = (j : Int) := by have := hj.out; omega
        have s2 : IntKind.i64.wrap (j : Int) = (j : Int) := by have := hj.out; exact IntWalk.i64_in _ (by omega)
        have hPQ : Hid (P = Q ++ [x]) := by show _ = _; rw [← hP.out, Mk.proofL_right kn (by rw [← hln.out]; exact h2) hmn' (by rw [← hln.out]; exact hi) (by rw [← hln.out, hk.out]; exact his), ← hln.out, hk.out, hj.out, hQ.out, hx.out]
        have d1 : Hid (∀ W, Below w.heap.size w W → Calls Tryd.prog 70 #[.slice a2 m c, .int .i64 (j : Int), .bool false] W fun e w' => (∃ v, e = .returned v ∧ w'.ownsRow W.heap.size 9 1 v Q.length (svals Q) ∧ Q.length ≤ m) ∧ Below W.heap.size W w') := fun W hW =>
          ih (ss.drop k) Q j false a2 m c W hQ (by have := hkp.out; have := hm.out; omega) (by have := hj.out; omega) (by have := hj.out; have := hm.out; omega) (by have := hm.out; omega) (hS.drop k) (hL.below hW hL.two) (hR2.out.below hW)
        have d2 : Hid (∀ W, Below w.heap.size w W → Calls Tryd.prog 23 #[.slice a k cap] W fun e w' => e = .returned (.string x) ∧ Below W.heap.size W w') := fun W hW =>
          refroot_rec k (ss.take k) x a k cap W hx (Nat.le_refl _) (by have := hkl.out; omega) (hS.take k) (hL.below hW hL.two) (hR1.out.below hW)
        have t2 : ¬ (i : Int) ≤ (k : Int) := by omega
        have hmn : Hid (m < n) := by show _ < _; have := hm.out; have := hkp.out; omega
        clear ih hS hR hR1 hR2 hP hQ hx hy hm hc ha2 hln hin hmn' hL hj
        go_enter Tryd.func70, Tryd.ntmps70
        go_wp2_with (fail)
        refine (refsplitz_any n k hk.out h2 (by omega) _).mono ?_
        rintro e w1 ⟨rfl, rfl⟩
        go_wp2_with (fail)
        go_region_held3 (fun W => Below w.heap.size w W)
          (first | assumption | exact Below.drew (by assumption) | exact below_then (by assumption) (by assumption) | exact below_then (by assumption) ((Below.refl _ _).alloc (Nat.le_refl _) _) | exact Below.trans (by assumption) hb9)
          (first
            | (go_at_call 70; (with_reducible refine Calls.mono (d1.out _ ?_) ?_); (focus assumption); rintro e w7 ⟨⟨v, rfl, hown, hlen⟩, hb7⟩)
            | (go_at_call 23; (with_reducible refine Calls.mono (d2.out _ ?_) ?_); (focus assumption); rintro e w8 ⟨rfl, hb8⟩)
            | (refine step_snoc_str _ rfl _ _ rfl _ v Q.length Q rfl (own_belowS hown (below_then hb8 ((Below.refl _ _).alloc (Nat.le_refl _) _))) w8.heap.size x rfl (str_new _ _) (by have := hmn.out; have := hnb.out; omega) (Nat.le_trans hb7.size (Nat.le_trans hb8.size (by simp))) ?_; intro v9 w9 hown9 hb9))
        have hB9 : Hid (Below w.heap.size w w9) := by show Below _ _ _; assumption
        have hlen' := hidIt hlen
        have hown' : Hid (w9.ownsRow w.heap.size 9 1 v9 (Q.length + 1) (svals (Q ++ [x]))) := hown9
        clear hown hown9 hb9 hb8 hb7 hlen
        go_wp2
        go_ret
        exact ⟨⟨v9, rfl, by rw [hPQ.out, List.length_append]; exact hown'.out, by rw [hPQ.out, List.length_append]; have := hlen'.out; have := hmn.out; show _ + 1 ≤ _; omega⟩, hB9.out⟩
theorem refcons_good (a : Option Addr) (n cap m : Nat) (ss P : List ByteArray) (hP : Hid (Mk.proofL ss m true = P)) (h1 : 1 ≤ m) (hm : m ≤ n) (hS : Sr ss) (hbig : n ≤ 1000000000) (w : World) (hL : Laid w) (hR : Hid (RdS w a n cap ss)) :
    Calls Tryd.prog 36 #[.slice a n cap, .int .i64 (m : Int), .int .i64 (n : Int)] w fun e w' => (∃ v, e = .returned (.tuple #[v, .int .i64 0]) ∧ w'.ownsRow w.heap.size 9 1 v P.length (svals P)) ∧ Below w.heap.size w w' := by
  have h0 : ¬ (m : Int) < 0 := by omega
  have h2 : ¬ (n : Int) < (m : Int) := by omega
  have h3 : ((m : Int) == 0) = false := by simp; omega
  have sl := fun W => sliceSH a n cap n hR.out.cap W
  go_enter Tryd.func36, Tryd.ntmps36
  go_wp2_with (fail)
  refine (refproof_rec n ss P m true a n cap _ hP (Nat.le_refl _) h1 hm hbig hS hL hR).mono ?_
  rintro e w1 ⟨⟨v, rfl, hown, _⟩, hb1⟩
  have ho := hidIt hown
  have hb := hidIt hb1
  clear hown hb1
  go_wp2_with (fail)
  go_ret2
  exact ⟨⟨v, rfl, ho.out⟩, hb.out⟩
end Go.Proofs.YtgkomejckbccdaaDoor
namespace Go.Proofs.YtgkomejckbccdaaDoor
open Go.RowKit
set_option maxRecDepth 100000 in
set_option maxHeartbeats 1000000 in
theorem found_rec (aP : Option Addr) (nP capP : Nat) (P : List ByteArray) (x : ByteArray) (hP : ∀ s ∈ P, s.size = 32) (hx : x.size = 32) (hnP : nP ≤ 1000) (q : Nat) : ∀ (ss : List ByteArray) (m l : Nat) (kn : Bool) (r : ByteArray) (a : Option Addr) (n cap : Nat) (w : World), n ≤ q → 1 ≤ m → m ≤ n → n ≤ 1000 → l ≤ nP → (∀ s ∈ ss, s.size = 32) → Hid (Mk.both false P x l m n kn = (r, Mk.root ss, true)) → Hid (r ≠ Mk.root (ss.take m)) → Laid w → Hid (RdS w a n cap ss) → Hid (RdS w aP nP capP P) →
    Calls Tryd.prog 40 #[.slice a n cap, .int .i64 (m : Int), .bool kn, .string x, .slice aP l capP] w fun e w' => e = .returned (.bool true) ∧ Below w.heap.size w w' := by
  have hPr : Sr P := fun s hs => by rw [hP s hs]; decide
  induction q with
  | zero => intro ss m l kn r a n cap w h1 h2; omega
  | succ q ih =>
    intro ss m l kn r a n cap w hq h1 hmn hbig hl hS hu hne hL hR hRP
    have hSr : Sr ss := fun s hs => by rw [hS s hs]; decide
    have hln : Hid (n = ss.length) := hR.out.len
    have hB0 := Below.refl w.heap.size w
    by_cases hm : m = n
    · exfalso
      subst hm
      exact hne.out (by rw [Mk.both_same hu.out, List.take_of_length_le (by have := hln.out; omega)])
    · have h2 : 2 ≤ n := by omega
      have t1 : ((m : Int) == (n : Int)) = false := by simp; omega
      have hu2 := hu.out
      clear hu
      cases l with
      | zero => exfalso; unfold Mk.both at hu2; rw [if_neg (fun h => hm h.1)] at hu2; exact absurd (Prod.mk.inj (Prod.mk.inj hu2).2).2 (by decide)
      | succ l =>
      obtain ⟨ll, hll⟩ : ∃ z, Hid (l + 1 = z) := ⟨_, rfl⟩
      rw [hll.out]
      unfold Mk.both at hu2
      obtain ⟨k, hk⟩ : ∃ k, Hid (Mk.spl n = k) := ⟨_, rfl⟩
      obtain ⟨j2, hj2⟩ : ∃ m, Hid (n - k = m) := ⟨_, rfl⟩
      obtain ⟨c, hc⟩ : ∃ c, Hid (cap - k = c) := ⟨_, rfl⟩
      obtain ⟨a2, ha2⟩ : ∃ a2, Hid ((if cap = k then a else a.map fun x => x.add k) = a2) := ⟨_, rfl⟩
      obtain ⟨u, hru⟩ : ∃ x, Hid (Mk.root (ss.take k) = x) := ⟨_, rfl⟩
      obtain ⟨v, hrv⟩ : ∃ y, Hid (Mk.root (ss.drop k) = y) := ⟨_, rfl⟩
      obtain ⟨y, hy⟩ : ∃ y, Hid (P.getD l ByteArray.empty = y) := ⟨_, rfl⟩
      have hlP : Hid (l < P.length) := by show _ < _; have := hRP.out.len; omega
      have y32 : Hid (y.size = 32) := by
        show _ = _
        rw [← hy.out]
        exact getD_sum hP hlP.out
      have u32 : Hid (u.size = 32) := by show _ = _; rw [← hru.out]; exact Mk.root_sum fun s hs => hS s (List.mem_of_mem_take hs)
      have v32 : Hid (v.size = 32) := by show _ = _; rw [← hrv.out]; exact Mk.root_sum fun s hs => hS s (List.mem_of_mem_drop hs)
      have hkl : Hid (k < n) := by show _ < _; rw [← hk.out]; exact Mk.spl_lt h2
      have hkp : Hid (0 < k) := by show _ < _; rw [← hk.out]; exact Mk.spl_pos n
      have hroot : Hid (Mk.root ss = Mk.node u v) := by show _ = _; rw [← hru.out, ← hrv.out, Mk.root_more (ls := ss) (by rw [← hln.out]; exact h2), ← hln.out, hk.out]
      rw [hroot.out] at hu2
      have sl1 := fun W => sliceSH a n cap k (by have := hkl.out; have := hR.out.cap; omega) W
      have sl2 := fun W => sliceSL a n cap k (by have := hkl.out; omega) W
      rw [ha2.out, hj2.out, hc.out] at sl2
      have hR1 : Hid (RdS w a k cap (ss.take k)) := hR.out.take (by have := hkl.out; omega)
      have hR2 : Hid (RdS w a2 j2 c (ss.drop k)) := hR.out.drop hj2.out hc.out ha2.out
      have sl3 := fun W => sliceSH aP ll capP l (by have := hll.out; have := hRP.out.cap; omega) W
      obtain ⟨b, o, rfl, hcell⟩ := hRP.out.cell (i := l) (by omega) hy.out
      have z0 : (0 : Int) ≤ (l : Int) := by omega
      have z1 : (l : Int) < (ll : Int) := by have := hll.out; omega
      have s1 : (ll : Int) - 1 = (l : Int) := by have := hll.out; omega
      have s2 : IntKind.i64.wrap (l : Int) = (l : Int) := IntWalk.i64_in _ (by omega)
      have y0 : (0 : Int) ≤ (k : Int) := by omega
      have y1 : (k : Int) ≤ (n : Int) := by have := hkl.out; omega
      rw [if_neg hm, hk.out, hy.out] at hu2
      have dU : Hid (∀ W, Below w.heap.size w W → Calls Tryd.prog 23 #[.slice a k cap] W fun e w' => e = .returned (.string u) ∧ Below W.heap.size W w') := fun W hW =>
        refroot_rec k (ss.take k) u a k cap W hru (Nat.le_refl _) (by have := hkl.out; omega) (hSr.take k) (hL.below hW hL.two) (hR1.out.below hW)
      have dV : Hid (∀ W, Below w.heap.size w W → Calls Tryd.prog 23 #[.slice a2 j2 c] W fun e w' => e = .returned (.string v) ∧ Below W.heap.size W w') := fun W hW =>
        refroot_rec j2 (ss.drop k) v a2 j2 c W hrv (Nat.le_refl _) (by have := hj2.out; omega) (hSr.drop k) (hL.below hW hL.two) (hR2.out.below hW)
      by_cases his : m ≤ k
      · obtain ⟨⟨r1, s1', ok⟩, hur⟩ : ∃ z, Hid (Mk.both false P x l m k kn = z) := ⟨_, rfl⟩
        rw [if_pos his, hur.out] at hu2
        obtain ⟨hrr, h3⟩ := Prod.mk.inj hu2
        have hrr2 : r1 = r := hrr
        subst hrr2
        obtain ⟨hnode, hok⟩ := Prod.mk.inj h3
        have hok2 : ok = true := hok
        subst hok2
        have hnode2 : Hid (Mk.node s1' y = Mk.node u v) := hnode
        have z32 : Hid (s1'.size = 32) := by
          show _ = _
          have h9 := both32 (e := false) hx hP l m k kn (by have := hlP.out; omega) (by rw [hur.out])
          rw [hur.out] at h9; exact h9.2
        have dT : Hid (∀ W, Below w.heap.size w W → Calls Tryd.prog 73 #[.slice a k cap, .int .i64 (m : Int), .bool kn, .string x, .slice (some ⟨b, o, none⟩) l capP] W fun e w' => (∃ t : Bool, e = .returned (.tuple #[.string s1', .bool t])) ∧ Below W.heap.size W w') := fun W hW =>
          prefixed_rec (some ⟨b, o, none⟩) nP capP P x hP hx hnP k (ss.take k) m l kn r1 s1' a k cap W (Nat.le_refl _) h1 his (by have := hkl.out; omega) (by omega) (fun s hs => hS s (List.mem_of_mem_take hs)) hur (hL.below hW hL.two) (hR1.out.below hW) (hRP.out.below hW)
        have dF : Hid (s1' = u → ∀ W, Below w.heap.size w W → Calls Tryd.prog 40 #[.slice a k cap, .int .i64 (m : Int), .bool kn, .string x, .slice (some ⟨b, o, none⟩) l capP] W fun e w' => e = .returned (.bool true) ∧ Below W.heap.size W w') := fun he W hW =>
          ih (ss.take k) m l kn r1 a k cap W (by have := hkl.out; omega) h1 his (by have := hkl.out; omega) (by omega) (fun s hs => hS s (List.mem_of_mem_take hs)) (by rw [hru.out, ← he]; exact hur.out) (by show _ ≠ _; rw [List.take_take, Nat.min_eq_left his]; exact hne.out) (hL.below hW hL.two) (hR1.out.below hW) (hRP.out.below hW)
        obtain ⟨p1, hp1⟩ : ∃ z, Hid (mark1 ++ s1' = z) := ⟨_, rfl⟩
        obtain ⟨p2, hp2⟩ : ∃ z, Hid (p1 ++ y = z) := ⟨_, rfl⟩
        obtain ⟨p3, hp3⟩ : ∃ z, Hid (mark1 ++ u = z) := ⟨_, rfl⟩
        obtain ⟨p4, hp4⟩ : ∃ z, Hid (p3 ++ v = z) := ⟨_, rfl⟩
        have m1s : mark1.size = 1 := rfl
        have f1 : ∀ W, (Op.stringOp .add ({ data := #[1] } : ByteArray) s1').run Tryd.prog W = .ok (.string p1) W := fun W => by rw [← hp1.out]; exact add_str mark1 s1' (by rw [m1s, z32.out]; decide) W
        have p1s : p1.size = 33 := by rw [← hp1.out, ByteArray.size_append, m1s, z32.out]
        have f2 : ∀ W, (Op.stringOp .add p1 y).run Tryd.prog W = .ok (.string p2) W := fun W => by rw [← hp2.out]; exact add_str p1 y (by rw [p1s, y32.out]; decide) W
        have p2s : p2.size = 65 := by rw [← hp2.out, ByteArray.size_append, p1s, y32.out]
        have f3 : ∀ W, (Op.stringOp .add ({ data := #[1] } : ByteArray) u).run Tryd.prog W = .ok (.string p3) W := fun W => by rw [← hp3.out]; exact add_str mark1 u (by rw [m1s, u32.out]; decide) W
        have p3s : p3.size = 33 := by rw [← hp3.out, ByteArray.size_append, m1s, u32.out]
        have f4 : ∀ W, (Op.stringOp .add p3 v).run Tryd.prog W = .ok (.string p4) W := fun W => by rw [← hp4.out]; exact add_str p3 v (by rw [p3s, v32.out]; decide) W
        have p4s : p4.size = 65 := by rw [← hp4.out, ByteArray.size_append, p3s, v32.out]
        have e1 : Hid (p2 = nstr s1' y) := by show _ = _; rw [← hp2.out, ← hp1.out]; rfl
        have e2 : Hid (p4 = nstr u v) := by show _ = _; rw [← hp4.out, ← hp3.out]; rfl
        have hin : Hid (p2 = p4 → s1' = u) := fun h => (nstr_inj (x := s1') (x' := u) (y := y) (y' := v) (z32.out.trans u32.out.symm) (by rw [← e1.out, ← e2.out]; exact h)).1
        have dC1 : Hid (p2 ≠ p4 → ∀ W, Calls Tryd.prog 49 #[.string p2, .string p4] W fun e w' => e = .returned (.bool true) ∧ Below W.heap.size W w') := fun hnp W =>
          collides_any p2 p4 true (by show _ = _; rw [e1.out, e2.out]; exact coll_true (by rw [← e1.out, ← e2.out]; exact hnp) hnode2.out) (by rw [p2s]; decide) (by rw [p4s]; decide) W
        have dC0 : Hid (p2 = p4 → ∀ W, Calls Tryd.prog 49 #[.string p2, .string p4] W fun e w' => e = .returned (.bool false) ∧ Below W.heap.size W w') := fun hnp W =>
          collides_any p2 p4 false (by show _ = _; rw [coll]; simp [hnp]) (by rw [p2s]; decide) (by rw [p4s]; decide) W
        have t2 : (m : Int) ≤ (k : Int) := by omega
        clear ih hR hR1 hR2 hRP hur hu2 hnode hnode2 hok h3 hru hrv hy hj2 hc ha2 hp1 hp2 hp3 hp4 p1s p2s p3s p4s m1s hln hm hS hSr hP hPr hlP e1 e2 hroot hne hrr
        go_enter Tryd.func40, Tryd.ntmps40
        go_wp2_with (fail)
        refine (refsplitz_any n k hk.out h2 (by omega) _).mono ?_
        rintro e w1 ⟨rfl, rfl⟩
        go_wp2_with (fail)
        go_quiet (fail)
        obtain ⟨wp, hwp⟩ : ∃ wq, Hid (w.drewN nq = wq) := ⟨_, rfl⟩
        rw [hwp.out]
        have hBq0 : Hid (Below w.heap.size w wp) := by show Below _ _ _; rw [← hwp.out]; exact below_drewN (Below.refl w.heap.size w) nq
        clear hwp hcell
        have hBq1 := hBq0.out
        go_wp2_with (fail)
        go_region_held3 (fun W => Below w.heap.size w W)
          (first | assumption | exact Below.drew (by assumption) | exact below_then (by assumption) (by assumption))
          (first
            | (go_at_call 23; (with_reducible refine Calls.mono (dU.out _ ?_) ?_); (focus assumption); rintro e w8 ⟨rfl, hb8⟩)
            | (go_at_call 23; (with_reducible refine Calls.mono (dV.out _ ?_) ?_); (focus assumption); rintro e w9 ⟨rfl, hb9⟩))
        have hB9 : Hid (Below w.heap.size w w9) := by show Below _ _ _; assumption
        clear hBq0 hBq1 hb8 hb9
        go_wp2_with (fail)
        refine (dT.out _ hB9.out).mono ?_
        rintro e w2 ⟨⟨t, rfl⟩, hb2⟩
        have B2 := hidIt (below_then hB9.out hb2)
        clear hb2
        by_cases hpp : p2 = p4
        · have c0 := hidIt (dC0.out hpp)
          have hd := hidIt (hin.out hpp)
          clear hpp dC0 dC1 hin
          go_wp2_with (fail)
          refine (c0.out _).mono ?_
          rintro e w3 ⟨rfl, hb3⟩
          have B3 := hidIt (below_then B2.out hb3)
          clear hb3
          go_wp2_with (fail)
          refine (dF.out hd.out _ B3.out).mono ?_
          rintro e w4 ⟨rfl, hb4⟩
          go_wp2_with (fail)
          go_ret
          exact ⟨rfl, below_then B3.out hb4⟩
        · have c1 := hidIt (dC1.out hpp)
          clear hpp dC0 dC1 hin
          go_wp2_with (fail)
          refine (c1.out _).mono ?_
          rintro e w3 ⟨rfl, hb3⟩
          have B3 := hidIt (below_then B2.out hb3)
          clear hb3
          go_wp2_with (fail)
          go_ret
          exact ⟨rfl, B3.out⟩
      · obtain ⟨j, hj⟩ : ∃ j, Hid (m - k = j) := ⟨_, rfl⟩
        obtain ⟨⟨r1, s1', ok⟩, hur⟩ : ∃ z, Hid (Mk.both false P x l j j2 false = z) := ⟨_, rfl⟩
        rw [if_neg his, hj.out, hj2.out, hur.out] at hu2
        have s3 : (m : Int) - (k : Int) = (j : Int) := by have := hj.out; omega
        have s5 : IntKind.i64.wrap (j : Int) = (j : Int) := by have := hj.out; exact IntWalk.i64_in _ (by omega)
        obtain ⟨hrr, h3⟩ := Prod.mk.inj hu2
        have hrr2 : Hid (Mk.node y r1 = r) := hrr
        obtain ⟨hnode, hok⟩ := Prod.mk.inj h3
        have hok2 : ok = true := hok
        subst hok2
        have hnode2 : Hid (Mk.node y s1' = Mk.node u v) := hnode
        have z32 : Hid (s1'.size = 32) := by
          show _ = _
          have h9 := both32 (e := false) hx hP l j j2 false (by have := hlP.out; omega) (by rw [hur.out])
          rw [hur.out] at h9; exact h9.2
        have dT : Hid (∀ W, Below w.heap.size w W → Calls Tryd.prog 73 #[.slice a2 j2 c, .int .i64 (j : Int), .bool false, .string x, .slice (some ⟨b, o, none⟩) l capP] W fun e w' => (∃ t : Bool, e = .returned (.tuple #[.string s1', .bool t])) ∧ Below W.heap.size W w') := fun W hW =>
          prefixed_rec (some ⟨b, o, none⟩) nP capP P x hP hx hnP j2 (ss.drop k) j l false r1 s1' a2 j2 c W (Nat.le_refl _) (by have := hj.out; omega) (by have := hj.out; have := hj2.out; omega) (by have := hj2.out; omega) (by omega) (fun s hs => hS s (List.mem_of_mem_drop hs)) hur (hL.below hW hL.two) (hR2.out.below hW) (hRP.out.below hW)
        have dF : Hid (y = u → s1' = v → ∀ W, Below w.heap.size w W → Calls Tryd.prog 40 #[.slice a2 j2 c, .int .i64 (j : Int), .bool false, .string x, .slice (some ⟨b, o, none⟩) l capP] W fun e w' => e = .returned (.bool true) ∧ Below W.heap.size W w') := fun hyu he W hW =>
          ih (ss.drop k) j l false r1 a2 j2 c W (by have := hj2.out; have := hkp.out; omega) (by have := hj.out; omega) (by have := hj.out; have := hj2.out; omega) (by have := hj2.out; omega) (by omega) (fun s hs => hS s (List.mem_of_mem_drop hs)) (by rw [hrv.out, ← he]; exact hur.out) (by
            intro hbad
            apply hne.out
            rw [Mk.root_take_mid (by rw [← hln.out]; exact h2) (by rw [← hln.out]; exact hmn) (by rw [← hln.out, hk.out]; omega), ← hln.out, hk.out, hj.out, hru.out, ← hbad, ← hrr2.out, hyu]) (hL.below hW hL.two) (hR2.out.below hW) (hRP.out.below hW)
        obtain ⟨p1, hp1⟩ : ∃ z, Hid (mark1 ++ y = z) := ⟨_, rfl⟩
        obtain ⟨p2, hp2⟩ : ∃ z, Hid (p1 ++ s1' = z) := ⟨_, rfl⟩
        obtain ⟨p3, hp3⟩ : ∃ z, Hid (mark1 ++ u = z) := ⟨_, rfl⟩
        obtain ⟨p4, hp4⟩ : ∃ z, Hid (p3 ++ v = z) := ⟨_, rfl⟩
        have m1s : mark1.size = 1 := rfl
        have f1 : ∀ W, (Op.stringOp .add ({ data := #[1] } : ByteArray) y).run Tryd.prog W = .ok (.string p1) W := fun W => by rw [← hp1.out]; exact add_str mark1 y (by rw [m1s, y32.out]; decide) W
        have p1s : p1.size = 33 := by rw [← hp1.out, ByteArray.size_append, m1s, y32.out]
        have f2 : ∀ W, (Op.stringOp .add p1 s1').run Tryd.prog W = .ok (.string p2) W := fun W => by rw [← hp2.out]; exact add_str p1 s1' (by rw [p1s, z32.out]; decide) W
        have p2s : p2.size = 65 := by rw [← hp2.out, ByteArray.size_append, p1s, z32.out]
        have f3 : ∀ W, (Op.stringOp .add ({ data := #[1] } : ByteArray) u).run Tryd.prog W = .ok (.string p3) W := fun W => by rw [← hp3.out]; exact add_str mark1 u (by rw [m1s, u32.out]; decide) W
        have p3s : p3.size = 33 := by rw [← hp3.out, ByteArray.size_append, m1s, u32.out]
        have f4 : ∀ W, (Op.stringOp .add p3 v).run Tryd.prog W = .ok (.string p4) W := fun W => by rw [← hp4.out]; exact add_str p3 v (by rw [p3s, v32.out]; decide) W
        have p4s : p4.size = 65 := by rw [← hp4.out, ByteArray.size_append, p3s, v32.out]
        have e1 : Hid (p2 = nstr y s1') := by show _ = _; rw [← hp2.out, ← hp1.out]; rfl
        have e2 : Hid (p4 = nstr u v) := by show _ = _; rw [← hp4.out, ← hp3.out]; rfl
        have hin : Hid (p2 = p4 → y = u ∧ s1' = v) := fun h => nstr_inj (x := y) (x' := u) (y := s1') (y' := v) (y32.out.trans u32.out.symm) (by rw [← e1.out, ← e2.out]; exact h)
        have dC1 : Hid (p2 ≠ p4 → ∀ W, Calls Tryd.prog 49 #[.string p2, .string p4] W fun e w' => e = .returned (.bool true) ∧ Below W.heap.size W w') := fun hnp W =>
          collides_any p2 p4 true (by show _ = _; rw [e1.out, e2.out]; exact coll_true (by rw [← e1.out, ← e2.out]; exact hnp) hnode2.out) (by rw [p2s]; decide) (by rw [p4s]; decide) W
        have dC0 : Hid (p2 = p4 → ∀ W, Calls Tryd.prog 49 #[.string p2, .string p4] W fun e w' => e = .returned (.bool false) ∧ Below W.heap.size W w') := fun hnp W =>
          collides_any p2 p4 false (by show _ = _; rw [coll]; simp [hnp]) (by rw [p2s]; decide) (by rw [p4s]; decide) W
        have t2 : ¬ (m : Int) ≤ (k : Int) := by omega
        clear ih hR hR1 hR2 hRP hur hu2 hnode hnode2 hok h3 hru hrv hy hj2 hc ha2 hp1 hp2 hp3 hp4 p1s p2s p3s p4s m1s hln hm hS hSr hP hPr hlP e1 e2 hroot hne hrr hrr2 hj
        go_enter Tryd.func40, Tryd.ntmps40
        go_wp2_with (fail)
        refine (refsplitz_any n k hk.out h2 (by omega) _).mono ?_
        rintro e w1 ⟨rfl, rfl⟩
        go_wp2_with (fail)
        go_quiet (fail)
        obtain ⟨wp, hwp⟩ : ∃ wq, Hid (w.drewN nq = wq) := ⟨_, rfl⟩
        rw [hwp.out]
        have hBq0 : Hid (Below w.heap.size w wp) := by show Below _ _ _; rw [← hwp.out]; exact below_drewN (Below.refl w.heap.size w) nq
        clear hwp hcell
        have hBq1 := hBq0.out
        go_wp2_with (fail)
        go_region_held3 (fun W => Below w.heap.size w W)
          (first | assumption | exact Below.drew (by assumption) | exact below_then (by assumption) (by assumption))
          (first
            | (go_at_call 23; (with_reducible refine Calls.mono (dU.out _ ?_) ?_); (focus assumption); rintro e w8 ⟨rfl, hb8⟩)
            | (go_at_call 23; (with_reducible refine Calls.mono (dV.out _ ?_) ?_); (focus assumption); rintro e w9 ⟨rfl, hb9⟩))
        have hB9 : Hid (Below w.heap.size w w9) := by show Below _ _ _; assumption
        clear hBq0 hBq1 hb8 hb9
        go_wp2_with (fail)
        refine (dT.out _ hB9.out).mono ?_
        rintro e w2 ⟨⟨t, rfl⟩, hb2⟩
        have B2 := hidIt (below_then hB9.out hb2)
        clear hb2
        by_cases hpp : p2 = p4
        · have c0 := hidIt (dC0.out hpp)
          have hd := hidIt (hin.out hpp)
          clear hpp dC0 dC1 hin
          go_wp2_with (fail)
          refine (c0.out _).mono ?_
          rintro e w3 ⟨rfl, hb3⟩
          have B3 := hidIt (below_then B2.out hb3)
          clear hb3
          go_wp2_with (fail)
          refine (dF.out hd.out.1 hd.out.2 _ B3.out).mono ?_
          rintro e w4 ⟨rfl, hb4⟩
          go_wp2_with (fail)
          go_ret
          exact ⟨rfl, below_then B3.out hb4⟩
        · have c1 := hidIt (dC1.out hpp)
          clear hpp dC0 dC1 hin
          go_wp2_with (fail)
          refine (c1.out _).mono ?_
          rintro e w3 ⟨rfl, hb3⟩
          have B3 := hidIt (below_then B2.out hb3)
          clear hb3
          go_wp2_with (fail)
          go_ret
          exact ⟨rfl, B3.out⟩
end Go.Proofs.YtgkomejckbccdaaDoor
namespace Go.Proofs.YtgkomejckbccdaaDoor
open Go.RowKit
set_option maxRecDepth 100000 in
set_option maxHeartbeats 1000000 in
theorem mextends_walk (a0 a3 : Option Addr) (len0 cap0 len3 cap3 : Nat) (ss P : List ByteArray) (i : Int) (x : ByteArray) (w : World) (hL : Laid w) (h0 : RdS w a0 len0 cap0 ss) (hm : cap0 ≤ maxLen) (hi : (Lit.int .i64 i).wf = true) (_hx : x.size ≤ maxLen) (h3 : RdS w a3 len3 cap3 P) (hm3 : cap3 ≤ maxLen) :
    Calls Tryd.prog 12 #[.slice a0 len0 cap0, .int .i64 i, .string x, .slice a3 len3 cap3] w fun e w' => e = .returned (.bool true) ∧ Below w.heap.size w w' := by
  have hR := hidIt h0
  have hP := hidIt h3
  have bi := hidIt (bounds_i64 hi)
  clear h0 h3 hi _hx
  obtain ⟨b, hb⟩ : ∃ b, Hid (fewB ss = b) := ⟨_, rfl⟩
  obtain ⟨d, hd⟩ : ∃ b, Hid (fewB P = b) := ⟨_, rfl⟩
  obtain ⟨f, hf⟩ : ∃ b, Hid (sumsB ss = b) := ⟨_, rfl⟩
  go_enter Tryd.func12, Tryd.ntmps12
  go_wp2_with (fail)
  refine (awake9_any _ hL).mono ?_
  rintro e w1 ⟨rfl, hb1⟩
  have B1 := hidIt hb1
  have L1 := hL.below hb1 hL.two
  have aw2 := hidIt (fun (W : World) (h : Laid W) => awake9_any W h)
  clear hb1
  go_wp2_with (fail)
  refine (few_any a0 len0 cap0 ss b hb hm _ (hR.out.below B1.out)).mono ?_
  rintro e w2 ⟨rfl, rfl⟩
  cases b with
  | false =>
    go_wp2_with (fail)
    refine (aw2.out _ L1).mono ?_
    rintro e w2 ⟨rfl, hb2⟩
    go_wp2_with (fail)
    go_ret
    exact ⟨rfl, below_then B1.out hb2⟩
  | true =>
  have hS := hidIt (few_sr hb.out).1
  have hl : Hid (len0 ≤ 20) := by show _ ≤ _; rw [hR.out.len]; exact (few_sr hb.out).2
  go_wp2_with (fail)
  refine (few_any a3 len3 cap3 P d hd hm3 _ (hP.out.below B1.out)).mono ?_
  rintro e w2 ⟨rfl, rfl⟩
  cases d with
  | false =>
    go_wp2_with (fail)
    refine (aw2.out _ L1).mono ?_
    rintro e w2 ⟨rfl, hb2⟩
    go_wp2_with (fail)
    go_ret
    exact ⟨rfl, below_then B1.out hb2⟩
  | true =>
  have hSP := hidIt (few_sr hd.out).1
  have hl3 : Hid (len3 ≤ 20) := by show _ ≤ _; rw [hP.out.len]; exact (few_sr hd.out).2
  by_cases hx64 : 64 < x.size
  · have t1 : (64 : Int) < (x.size : Int) := by omega
    go_wp2_with (fail)
    refine (aw2.out _ L1).mono ?_
    rintro e w2 ⟨rfl, hb2⟩
    go_wp2_with (fail)
    go_ret
    exact ⟨rfl, below_then B1.out hb2⟩
  have t1 : ¬ (64 : Int) < (x.size : Int) := by omega
  have hx : Hid (x.size ≤ 64) := by show _ ≤ _; omega
  clear hx64
  go_wp2_with (fail)
  refine (refsums_any a0 len0 cap0 ss (by have := hl.out; omega) f hf _ (hR.out.below B1.out)).mono ?_
  rintro e w2 ⟨rfl, rfl⟩
  cases f with
  | false =>
    go_wp2_with (fail)
    refine (aw2.out _ L1).mono ?_
    rintro e w2 ⟨rfl, hb2⟩
    go_wp2_with (fail)
    go_ret
    exact ⟨rfl, below_then B1.out hb2⟩
  | true =>
  by_cases hi0 : i < 0
  · go_wp2_with (fail)
    refine (aw2.out _ L1).mono ?_
    rintro e w2 ⟨rfl, hb2⟩
    go_wp2_with (fail)
    go_ret
    exact ⟨rfl, below_then B1.out hb2⟩
  by_cases hil0 : (len0 : Int) < i
  · go_wp2_with (fail)
    refine (aw2.out _ L1).mono ?_
    rintro e w2 ⟨rfl, hb2⟩
    go_wp2_with (fail)
    go_ret
    exact ⟨rfl, below_then B1.out hb2⟩
  obtain ⟨m, rfl⟩ := Int.eq_ofNat_of_zero_le (show 0 ≤ i by omega)
  have hml : Hid (m ≤ len0) := by show _ ≤ _; omega
  have g1 : ¬ (m : Int) < 0 := hi0
  have g2 : ¬ (len0 : Int) < (m : Int) := hil0
  have hsum := hidIt (sumsB_all.1 hf.out)
  clear hi0 hil0
  obtain ⟨rt, hrt⟩ : ∃ v, Hid (Mk.root ss = v) := ⟨_, rfl⟩
  obtain ⟨v, hv⟩ : ∃ v, Hid (con (m : Int) (len0 : Int) x rt P = v) := ⟨_, rfl⟩
  go_wp2_with (fail)
  refine (refroot_rec len0 ss rt a0 len0 cap0 _ hrt (Nat.le_refl _) (by have := hl.out; omega) hS.out L1 (hR.out.below B1.out)).mono ?_
  rintro e w2 ⟨rfl, hb2⟩
  have B2 := hidIt (below_then B1.out hb2)
  clear hb2
  go_wp2_with (fail)
  refine (consistent_any a3 len3 cap3 P x rt (m : Int) (len0 : Int) v hv hSP.out.sm (by have := hx.out; omega) (by have := hl3.out; omega) (by have := hl.out; have := hml.out; omega) (by have := hl.out; omega) _ (hL.below B2.out hL.two) (hP.out.below B2.out)).mono ?_
  rintro e w3 ⟨rfl, hb3⟩
  have B3 := hidIt (below_then B2.out hb3)
  clear hb3
  cases v with
  | false =>
    go_wp2_with (fail)
    go_ret
    exact ⟨rfl, B3.out⟩
  | true =>
  obtain ⟨rm, hrm⟩ : ∃ v, Hid (Mk.root (ss.take m) = v) := ⟨_, rfl⟩
  have sl := fun W => sliceSH a0 len0 cap0 m (by have := hml.out; have := hR.out.cap; omega) W
  have z0 : (0 : Int) ≤ (m : Int) := by omega
  by_cases hxr : x = rm
  · subst hxr
    have q1 : (x.toList == x.toList) = true := by simp
    go_wp2_with (fail)
    refine (refroot_rec m (ss.take m) x a0 m cap0 _ hrm (Nat.le_refl _) (by have := hl.out; have := hml.out; omega) (hS.out.take m) (hL.below B3.out hL.two) ((hR.out.take hml.out).below B3.out)).mono ?_
    rintro e w4 ⟨rfl, hb4⟩
    have B4 := hidIt (below_then B3.out hb4)
    clear hb4
    go_wp2_with (fail)
    go_ret
    exact ⟨rfl, B4.out⟩
  have q1 : (x.toList == rm.toList) = false := by rw [str_beq]; simp [hxr]
  have hln := hidIt hR.out.len
  have hv2 := hv.out
  unfold con at hv2
  rw [if_pos (by have := hml.out; omega), Int.toNat_natCast, Int.toNat_natCast, Bool.and_eq_true, Bool.and_eq_true] at hv2
  obtain ⟨⟨hsP, hsX⟩, hcc⟩ := hv2
  have hx32 : Hid (x.size = 32) := sumsB_all.1 hsX x (by simp)
  have hP32 := hidIt (sumsB_all.1 hsP)
  have hm0 : m ≠ 0 := by
    intro hm0
    rw [if_pos (by omega), Bool.and_eq_true, Bool.and_eq_true] at hcc
    apply hxr
    have := of_decide_eq_true hcc.2.1
    rw [this, ← hrm.out, hm0, List.take_zero]
  rw [if_neg (by omega), Bool.and_eq_true, Bool.and_eq_true, decide_eq_true_eq, decide_eq_true_eq] at hcc
  obtain ⟨hok, hrx, hrr⟩ := hcc
  have hmn : m ≠ len0 := by
    intro hmn
    apply hxr
    have h9 := Mk.both_full (e := true) (P := P) (old := x) (l := P.length) (m := m) (r := (Mk.both true P x P.length m m true).1) (s := (Mk.both true P x P.length m m true).2.1) (by
      rw [← hmn] at hok
      exact Prod.ext rfl (Prod.ext rfl hok))
    have h10 : rt = x := by rw [← hrr, ← hmn]; exact h9.2
    rw [← h10, ← hrt.out, ← hrm.out, hmn, List.take_of_length_le (by have := hln.out; omega)]
  obtain ⟨Q, hQ⟩ : ∃ Q, Hid (Mk.proofL ss m true = Q) := ⟨_, rfl⟩
  have hlen : Hid (len3 = Q.length) := by
    show _ = _
    rw [hP.out.len, ← hQ.out]
    have := (Mk.both_len (Mk.part ss) P.length 0 m len0 true (by omega) hml.out).1 hok
    rw [this, hln.out]; rfl
  have hk2 := Mk.both_ok (old := x) (P := P) false P.length m len0 true
  have hu : Hid (Mk.both false P x len3 m len0 true = (x, Mk.root ss, true)) := by
    show _ = _
    rw [hP.out.len, hrt.out]
    have h5 : (Mk.both false P x P.length m len0 true).2.2 = true := hk2.1.trans hok
    exact Prod.ext ((hk2.2 h5).1.trans hrx) (Prod.ext ((hk2.2 h5).2.trans hrr) h5)
  have hne : Hid (x ≠ Mk.root (ss.take m)) := by show _ ≠ _; rw [hrm.out]; exact hxr
  have hm1 : Hid (1 ≤ m) := by show _ ≤ _; omega
  have t3 : ((m : Int) == 0) = false := by simp; omega
  have t4 : ((m : Int) == (len0 : Int)) = false := by simp; omega
  clear hsP hsX hok hrx hrr hk2 hv hm0 hmn hxr
  go_wp2_with (fail)
  refine (refroot_rec m (ss.take m) rm a0 m cap0 _ hrm (Nat.le_refl _) (by have := hl.out; have := hml.out; omega) (hS.out.take m) (hL.below B3.out hL.two) ((hR.out.take hml.out).below B3.out)).mono ?_
  rintro e w4 ⟨rfl, hb4⟩
  have B4 := hidIt (below_then B3.out hb4)
  clear hb4
  go_wp2_with (fail)
  refine (refcons_good a0 len0 cap0 m ss Q hQ hm1.out hml.out hS.out (by have := hl.out; omega) _ (hL.below B4.out hL.two) (hR.out.below B4.out)).mono ?_
  rintro e w5 ⟨⟨v, rfl, hown⟩, hb5⟩
  have B5 := hidIt (below_then B4.out hb5)
  obtain ⟨ap, cp, rfl, _, _, _⟩ := owned_strs hown rfl
  clear hb5 hown
  obtain ⟨ql, hql⟩ : ∃ l, Hid (Q.length = l) := ⟨_, rfl⟩
  rw [hql.out]
  have t5 : ((len3 : Int) != (ql : Int)) = false := by have := hlen.out; have := hql.out; simp; omega
  go_wp2_with (fail)
  refine (found_rec a3 len3 cap3 P x hP32.out hx32.out (by have := hl3.out; omega) len0 ss m len3 true x a0 len0 cap0 _ (Nat.le_refl _) hm1.out hml.out (by have := hl.out; omega) (Nat.le_refl _) hsum.out hu hne (hL.below B5.out hL.two) (hR.out.below B5.out) (hP.out.below B5.out)).mono ?_
  rintro e w6 ⟨rfl, hb6⟩
  have B6 := hidIt (below_then B5.out hb6)
  clear hb6
  go_wp2_with (fail)
  go_ret
  exact ⟨rfl, B6.out⟩
end Go.Proofs.YtgkomejckbccdaaDoor
