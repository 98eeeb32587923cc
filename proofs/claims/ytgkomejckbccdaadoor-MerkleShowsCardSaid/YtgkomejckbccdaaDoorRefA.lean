import Derived.Test.YtgkomejckbccdaaDoorRootM
import Derived.Test.YtgkomejckbccdaaDoorRefJoin
namespace Go.Proofs.YtgkomejckbccdaaDoor
open Go.RowKit
/-- strings of at most 64 bytes -/
def Sr (ss : List ByteArray) : Prop := ∀ s ∈ ss, s.size ≤ 64
theorem Sr.take {ss : List ByteArray} (h : Sr ss) (k : Nat) : Sr (ss.take k) := fun s hs => h s (List.mem_of_mem_take hs)
theorem Sr.drop {ss : List ByteArray} (h : Sr ss) (k : Nat) : Sr (ss.drop k) := fun s hs => h s (List.mem_of_mem_drop hs)
theorem Sr.root {ss : List ByteArray} (h : Sr ss) : (Mk.root ss).size ≤ 64 := Mk.root_bound (by decide) h
theorem Sr.sm {ss : List ByteArray} (h : Sr ss) : Sm ss := fun s hs => Nat.le_trans (h s hs) (by decide)
theorem row_one (w : World) (b : Nat) : (w.alloc (.cells #[.int .u8 (b : Int)] 5)).ownsRow w.heap.size 5 1 (.slice (some ⟨w.heap.size, 0, none⟩) 1 1) 1 (vals [b]) :=
  ⟨rfl, .inr ⟨w.heap.size, 1, #[.int .u8 (b : Int)], rfl, Nat.le_refl _, heap_alloc_new w _, Nat.le_refl _, by unfold maxLen; omega, rfl, rfl⟩⟩
set_option maxRecDepth 100000 in
theorem refleaf_any (a : Option Addr) (n cap : Nat) (xs : List Nat) (hn : Hid (n = xs.length)) (hx : ∀ x ∈ xs, x < 256) (hbig : xs.length ≤ 1000) (w : World) (h : Hid (Bytes w a xs)) (hnil : Hid (a = none → cap = 0 ∧ xs = [])) :
    Calls Tryd.prog 18 #[.slice a n cap] w fun e w' => e = .returned (.string (Mk.leaf xs)) ∧ Below w.heap.size w w' := by
  have hbA : Hid (Below w.heap.size w (w.alloc (.cells #[.int .u8 0] 5))) := (Below.refl _ _).alloc (Nat.le_refl _) _
  have hsz : Hid (w.heap.size ≤ (w.alloc (.cells #[.int .u8 0] 5)).heap.size) := hbA.out.size
  go_enter Tryd.func18, Tryd.ntmps18
  go_wp2_with (at_builtin; refine wpList_append_bytes _ rfl _ _ rfl w.heap.size (.slice (some ⟨w.heap.size, 0, none⟩) 1 1) 1 (vals [0]) rfl (row_one w 0) a n cap xs rfl hn.out (h.out.below hbA.out) hnil.out (by omega) hsz.out ?_)
  intro v' w2 hown hg
  obtain ⟨a', c', rfl, hby, _⟩ := owned_bytes (owned_append (xs := [0]) (ys := xs) hown (by simp; omega)) rfl
  have hb2 : Hid (Below w.heap.size w w2) := hbA.out.trans ((Below.refl w.heap.size _).grown hg hsz.out (fun q hq => by cases hq; exact Nat.le_refl _))
  have hby2 := hidIt hby
  have hnn : Hid (a' = none → c' = 0 ∧ ([0] ++ xs) = []) := fun e => by
    obtain ⟨b, off, h1, _⟩ := hby 0 (by simp)
    rw [e] at h1; cases h1
  clear hown hg hby
  obtain ⟨m, hm⟩ : ∃ m : Nat, Hid (([0] ++ xs : List Nat).length = m) := ⟨_, hidIt rfl⟩
  rw [hm.out]
  go_wp2_with (fail)
  refine (refsum_at a' m c' ([0] ++ xs) hm.out.symm (fun x hx2 => by rcases List.mem_cons.1 hx2 with rfl | h3; (· decide); exact hx x h3) (by simp; omega) _ hby2.out hnn.out).mono ?_
  rintro e w3 ⟨rfl, hb3⟩
  go_wp2_with (fail)
  go_ret
  exact ⟨rfl, below_then hb2.out hb3⟩
theorem refnode_any (s t v : ByteArray) (hv : Mk.node s t = v) (h1 : s.size + t.size ≤ 1000) (w : World) :
    Calls Tryd.prog 20 #[.string s, .string t] w fun e w' => e = .returned (.string v) ∧ Below w.heap.size w w' := by
  subst hv
  go_enter Tryd.func20, Tryd.ntmps20
  go_wp2_with (fail)
  have hbA : Below w.heap.size w (w.alloc (.cells #[.string mark1, .string s, .string t] 9)) := (Below.refl _ _).alloc (Nat.le_refl _) _
  refine (refjoin_any _ 3 [mark1, s, t] (by rw [cat3_len]; omega) (by show 3 ≤ _; decide) _ (strs_three w mark1 s t)).mono ?_
  rintro e w1 ⟨rfl, hb1⟩
  rw [cat3]
  go_wp2_with (fail)
  go_ret
  exact ⟨rfl, below_then hbA hb1⟩
theorem refnodez_any (s t v : ByteArray) (hv : Mk.node s t = v) (h1 : s.size ≤ 64) (h2 : t.size ≤ 64) (w : World) (_hL : Laid w) :
    Calls Tryd.prog 20 #[.string s, .string t] w fun e w' => e = .returned (.string v) ∧ Below w.heap.size w w' := refnode_any s t v hv (by omega) w
theorem refrootz_any (v : ByteArray) (hv : Mk.root [] = v) (w : World) (_hL : Laid w) :
    Calls Tryd.prog 54 #[.slice none 0 0] w fun e w' => e = .returned (.string v) ∧ Below w.heap.size w w' := by
  subst hv
  rw [Mk.root_nil]
  exact refsum_at none 0 0 [] rfl (by simp) (by decide) w (fun i hi => by simp at hi) (fun _ => ⟨rfl, rfl⟩)
set_option maxRecDepth 100000 in
theorem refsplitz_any (n k : Nat) (hk : Mk.spl n = k) (h2 : 2 ≤ n) (h : n < 9223372036854775808) (w : World) :
    Calls Tryd.prog 59 #[.int .i64 n] w fun e w' => e = .returned (.int .i64 (k : Int)) ∧ w = w' := by
  have hk2 := hidIt hk
  clear hk
  go_enter Tryd.func59, Tryd.ntmps59
  go_wp2
  go_loop [3] (fun i => ∃ p : Nat, i = .int .i64 (p : Int) ∧ p < n ∧ 0 < p ∧ Hid (∃ j, p = 2 ^ j)) (fun i => n - (intOf i).toNat)
  case atStart => exact ⟨1, rfl, by omega, by omega, 0, rfl⟩
  case round =>
    obtain ⟨p, rfl, hpn, hp0, hj⟩ := hrel
    by_cases hlt : p < n - p
    · have t1 : (p : Int) < (n : Int) - (p : Int) := by omega
      have hnext : Hid (∃ j, p * 2 = 2 ^ j) := by
        obtain ⟨j, hj⟩ := hj.out
        exact ⟨j + 1, by rw [hj, Nat.pow_succ]⟩
      clear hj
      go_wp2
      go_round
      case rel => exact ⟨p * 2, by go_num, by omega, by omega, hnext⟩
      case measure => simp [intOf]; omega
    · have t1 : ¬ (p : Int) < (n : Int) - (p : Int) := by omega
      have he : Hid (p = k) := by
        obtain ⟨j, rfl⟩ := hj.out
        show _ = _
        rw [← hk2.out]
        exact (Mk.spl_eq hpn (by omega)).symm
      clear hj
      go_wp2
      go_ret
      exact ⟨ret_int (by rw [he.out]), rfl⟩
set_option maxRecDepth 100000 in
theorem refroot_rec (q : Nat) : ∀ (ss : List ByteArray) (v : ByteArray) (a : Option Addr) (n cap : Nat) (w : World), Hid (Mk.root ss = v) → n ≤ q → n ≤ 140737488355328 → Sr ss → Laid w → Hid (RdS w a n cap ss) →
    Calls Tryd.prog 23 #[.slice a n cap] w fun e w' => e = .returned (.string v) ∧ Below w.heap.size w w' := by
  induction q with
  | zero =>
    intro ss v a n cap w hv hq _ hS hL hR
    obtain rfl : n = 0 := by omega
    have hnil : ss = [] := List.eq_nil_of_length_eq_zero hR.out.len.symm
    subst hnil
    go_enter Tryd.func23, Tryd.ntmps23
    go_wp2_with (fail)
    refine (refrootz_any v hv.out _ hL).mono ?_
    rintro e w1 ⟨rfl, hb1⟩
    go_wp2_with (fail)
    go_ret
    exact ⟨rfl, hb1⟩
  | succ q ih =>
    intro ss v a n cap w hv hq hbig hS hL hR
    by_cases h0 : n = 0
    · subst h0
      have hnil : ss = [] := List.eq_nil_of_length_eq_zero hR.out.len.symm
      subst hnil
      clear ih
      go_enter Tryd.func23, Tryd.ntmps23
      go_wp2_with (fail)
      refine (refrootz_any v hv.out _ hL).mono ?_
      rintro e w1 ⟨rfl, hb1⟩
      go_wp2_with (fail)
      go_ret
      exact ⟨rfl, hb1⟩
    by_cases h1 : n = 1
    · subst h1
      obtain ⟨s, rfl⟩ : ∃ s, ss = [s] := List.length_eq_one_iff.1 hR.out.len.symm
      obtain ⟨b, off, rfl, hc⟩ := hR.out.cell (i := 0) (s := s) (by decide) rfl
      have hvs : s = v := by rw [← hv.out, Mk.root_one]
      rw [Nat.add_zero] at hc
      subst hvs
      clear ih
      go_enter Tryd.func23, Tryd.ntmps23
      go_wp2_with (fail)
      go_ret
      exact ⟨rfl, Below.refl _ _⟩
    · obtain ⟨k, hk⟩ : ∃ k, Hid (Mk.spl n = k) := ⟨_, rfl⟩
      obtain ⟨m, hm⟩ : ∃ m, Hid (n - k = m) := ⟨_, rfl⟩
      obtain ⟨c, hc⟩ : ∃ c, Hid (cap - k = c) := ⟨_, rfl⟩
      obtain ⟨a2, ha2⟩ : ∃ a2, Hid ((if cap = k then a else a.map fun x => x.add k) = a2) := ⟨_, rfl⟩
      obtain ⟨x, hx⟩ : ∃ x, Hid (Mk.root (ss.take k) = x) := ⟨_, rfl⟩
      obtain ⟨y, hy⟩ : ∃ y, Hid (Mk.root (ss.drop k) = y) := ⟨_, rfl⟩
      have h2 : 2 ≤ n := by omega
      have t0 : ¬ (n : Int) = 0 := by omega
      have t1 : ¬ (n : Int) = 1 := by omega
      have hkl : Hid (k < n) := by show _ < _; rw [← hk.out]; exact Mk.spl_lt h2
      have hkp : Hid (0 < k) := by show _ < _; rw [← hk.out]; exact Mk.spl_pos n
      have hxy : Hid (Mk.node x y = v) := by
        show _ = _
        rw [← hx.out, ← hy.out, ← hv.out, Mk.root_more (ls := ss) (by rw [← hR.out.len]; exact h2), ← hR.out.len, hk.out]
      have sl1 := fun W => sliceSH a n cap k (by have := hkl.out; have := hR.out.cap; omega) W
      have sl2 := fun W => sliceSL a n cap k (by have := hkl.out; omega) W
      rw [ha2.out, hm.out, hc.out] at sl2
      have hR1 : Hid (RdS w a k cap (ss.take k)) := hR.out.take (by have := hkl.out; omega)
      have hR2 : Hid (RdS w a2 m c (ss.drop k)) := hR.out.drop hm.out hc.out ha2.out
      have bx : Hid (x.size ≤ 64) := by show _ ≤ _; rw [← hx.out]; exact (hS.take k).root
      have by' : Hid (y.size ≤ 64) := by show _ ≤ _; rw [← hy.out]; exact (hS.drop k).root
      have c1 : Hid (∀ W, Below w.heap.size w W → Calls Tryd.prog 23 #[.slice a k cap] W fun e w' => e = .returned (.string x) ∧ Below W.heap.size W w') := fun W hW =>
        ih (ss.take k) x a k cap W hx (by have := hkl.out; omega) (by have := hkl.out; omega) (hS.take k) (hL.below hW hL.two) (hR1.out.below hW)
      have c2 : Hid (∀ W, Below w.heap.size w W → Calls Tryd.prog 23 #[.slice a2 m c] W fun e w' => e = .returned (.string y) ∧ Below W.heap.size W w') := fun W hW =>
        ih (ss.drop k) y a2 m c W hy (by have := hkp.out; have := hm.out; omega) (by have := hm.out; omega) (hS.drop k) (hL.below hW hL.two) (hR2.out.below hW)
      have c3 : Hid (∀ W, Below w.heap.size w W → Calls Tryd.prog 20 #[.string x, .string y] W fun e w' => e = .returned (.string v) ∧ Below W.heap.size W w') := fun W hW =>
        refnodez_any x y v hxy.out bx.out by'.out W (hL.below hW hL.two)
      have hB0 := Below.refl w.heap.size w
      clear hS h0 h1 ih hR1 hR2 hxy bx by' hL hR hx hy hv ha2 hc hm hkl hkp
      go_enter Tryd.func23, Tryd.ntmps23
      go_wp2_with (fail)
      refine (refsplitz_any n k hk.out h2 (by omega) _).mono ?_
      rintro e w1 ⟨rfl, rfl⟩
      go_wp2_with (fail)
      go_region_held3 (fun W => Below w.heap.size w W)
        (first | assumption | exact Below.drew (by assumption) | exact below_then (by assumption) (by assumption))
        (first
          | (go_at_call 23; (with_reducible refine Calls.mono (c1.out _ ?_) ?_); (focus assumption); rintro e w7 ⟨rfl, hb7⟩)
          | (go_at_call 23; (with_reducible refine Calls.mono (c2.out _ ?_) ?_); (focus assumption); rintro e w8 ⟨rfl, hb8⟩)
          | (go_at_call 20; (with_reducible refine Calls.mono (c3.out _ ?_) ?_); (focus assumption); rintro e w9 ⟨rfl, hb9⟩))
      go_wp2_with (fail)
      go_ret
      exact ⟨rfl, by assumption⟩
end Go.Proofs.YtgkomejckbccdaaDoor
