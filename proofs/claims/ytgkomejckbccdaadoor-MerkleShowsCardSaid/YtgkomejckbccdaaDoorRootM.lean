import Derived.Test.YtgkomejckbccdaaDoorMer
namespace Go.Proofs.YtgkomejckbccdaaDoor
open Go.RowKit
/-- strings of at most a million bytes -/
def Sm (ss : List ByteArray) : Prop := ∀ s ∈ ss, s.size ≤ 1000000
theorem Sm.take {ss : List ByteArray} (h : Sm ss) (k : Nat) : Sm (ss.take k) := fun s hs => h s (List.mem_of_mem_take hs)
theorem Sm.drop {ss : List ByteArray} (h : Sm ss) (k : Nat) : Sm (ss.drop k) := fun s hs => h s (List.mem_of_mem_drop hs)
theorem Sm.root {ss : List ByteArray} (h : Sm ss) : (Mk.root ss).size ≤ 1000000 := Mk.root_bound (by decide) h
/-- a slice of strings that is read -/
structure RdS (w : World) (a : Option Addr) (n cap : Nat) (ss : List ByteArray) : Prop where
  len : n = ss.length
  cap : n ≤ cap
  at' : Strs w a ss
theorem RdS.below {w wr : World} {a : Option Addr} {n cap : Nat} {ss : List ByteArray} (h : RdS w a n cap ss) (hb : Below w.heap.size w wr) : RdS wr a n cap ss := ⟨h.len, h.cap, h.at'.below hb⟩
theorem RdS.take {w : World} {a : Option Addr} {n cap : Nat} {ss : List ByteArray} (h : RdS w a n cap ss) {k : Nat} (hk : k ≤ n) : RdS w a k cap (ss.take k) := by
  have h1 := h.len
  have h2 := h.cap
  exact ⟨by rw [List.length_take]; omega, by omega, h.at'.take k⟩
theorem RdS.drop {w : World} {a : Option Addr} {n cap : Nat} {ss : List ByteArray} (h : RdS w a n cap ss) {k m c : Nat} (hm : n - k = m) (hc : cap - k = c) {a2 : Option Addr} (ha : (if cap = k then a else a.map fun x => x.add k) = a2) : RdS w a2 m c (ss.drop k) := by
  have h1 := h.len
  have h2 := h.cap
  exact ⟨by rw [List.length_drop]; omega, by omega, by rw [← ha]; exact h.at'.drop k cap (by omega)⟩
theorem RdS.cell {w : World} {a : Option Addr} {n cap : Nat} {ss : List ByteArray} (h : RdS w a n cap ss) {i : Nat} {s : ByteArray} (hi : i < n) (hs : ss.getD i ByteArray.empty = s) : ∃ b off, a = some ⟨b, off, none⟩ ∧ w.cell? ⟨b, off + i, none⟩ = some (.string s) := by
  rw [← hs]; exact h.at' i (by have := h.len; omega)
theorem rootz_any (v : ByteArray) (hv : Mk.root [] = v) (w : World) (hL : Laid w) :
    Calls Tryd.prog 57 #[.slice none 0 0] w fun e w' => e = .returned (.string v) ∧ Below w.heap.size w w' := by
  subst hv
  rw [Mk.root_nil]
  exact sum_at none 0 0 [] rfl (by simp) (by decide) (by decide) w hL (fun i hi => by simp at hi) (fun h => by simp at h)
theorem nodez_any (s t v : ByteArray) (hv : Mk.node s t = v) (h1 : s.size ≤ 1000000) (h2 : t.size ≤ 1000000) (w : World) (hL : Laid w) :
    Calls Tryd.prog 19 #[.string s, .string t] w fun e w' => e = .returned (.string v) ∧ Below w.heap.size w w' := hv ▸ node_any s t (by omega) w hL
theorem splitz_any (n k : Nat) (hk : Mk.spl n = k) (h2 : 2 ≤ n) (h : n < 9223372036854775808) (w : World) :
    Calls Tryd.prog 58 #[.int .i64 n] w fun e w' => e = .returned (.int .i64 (k : Int)) ∧ w = w' := hk ▸ split_any n h2 h w
set_option maxRecDepth 100000 in
theorem root_rec (q : Nat) : ∀ (ss : List ByteArray) (v : ByteArray) (a : Option Addr) (n cap : Nat) (w : World), Hid (Mk.root ss = v) → n ≤ q → n ≤ 140737488355328 → Sm ss → Laid w → Hid (RdS w a n cap ss) →
    Calls Tryd.prog 22 #[.slice a n cap] w fun e w' => e = .returned (.string v) ∧ Below w.heap.size w w' := by
  induction q with
  | zero =>
    intro ss v a n cap w hv hq _ hS hL hR
    obtain rfl : n = 0 := by omega
    have hnil : ss = [] := List.eq_nil_of_length_eq_zero hR.out.len.symm
    subst hnil
    go_enter Tryd.func22, Tryd.ntmps22
    go_wp2_with (fail)
    refine (rootz_any v hv.out _ hL).mono ?_
    rintro e w1 ⟨rfl, hb1⟩
    go_wp2_with (fail)
    go_ret
    exact ⟨rfl, hb1⟩
  | succ q ih =>
    intro ss v a n cap w hv hq hbig hS hL hR
    by_cases h0 : n = 0
    · subst h0
      have hnil : ss = [] := List.eq_nil_of_length_eq_zero hR.out.len.symm
      subst hnil
      clear ih
      go_enter Tryd.func22, Tryd.ntmps22
      go_wp2_with (fail)
      refine (rootz_any v hv.out _ hL).mono ?_
      rintro e w1 ⟨rfl, hb1⟩
      go_wp2_with (fail)
      go_ret
      exact ⟨rfl, hb1⟩
    by_cases h1 : n = 1
    · subst h1
      obtain ⟨s, rfl⟩ : ∃ s, ss = [s] := List.length_eq_one_iff.1 hR.out.len.symm
      obtain ⟨b, off, rfl, hc⟩ := hR.out.cell (i := 0) (s := s) (by decide) rfl
      have hvs : s = v := by rw [← hv.out, Mk.root_one]
      rw [Nat.add_zero] at hc
      subst hvs
      clear ih
      go_enter Tryd.func22, Tryd.ntmps22
      go_wp2_with (fail)
      go_ret
      exact ⟨rfl, Below.refl _ _⟩
    · obtain ⟨k, hk⟩ : ∃ k, Hid (Mk.spl n = k) := ⟨_, rfl⟩
      obtain ⟨m, hm⟩ : ∃ m, Hid (n - k = m) := ⟨_, rfl⟩
      obtain ⟨c, hc⟩ : ∃ c, Hid (cap - k = c) := ⟨_, rfl⟩
      obtain ⟨a2, ha2⟩ : ∃ a2, Hid ((if cap = k then a else a.map fun x => x.add k) = a2) := ⟨_, rfl⟩
      obtain ⟨x, hx⟩ : ∃ x, Hid (Mk.root (ss.take k) = x) := ⟨_, rfl⟩
      obtain ⟨y, hy⟩ : ∃ y, Hid (Mk.root (ss.drop k) = y) := ⟨_, rfl⟩
      have h2 : 2 ≤ n := by omega
      have t0 : ¬ (n : Int) = 0 := by omega
      have t1 : ¬ (n : Int) = 1 := by omega
      have hkl : Hid (k < n) := by show _ < _; rw [← hk.out]; exact Mk.spl_lt h2
      have hkp : Hid (0 < k) := by show _ < _; rw [← hk.out]; exact Mk.spl_pos n
      have hxy : Hid (Mk.node x y = v) := by
        show _ = _
        rw [← hx.out, ← hy.out, ← hv.out, Mk.root_more (ls := ss) (by rw [← hR.out.len]; exact h2), ← hR.out.len, hk.out]
      have sl1 := fun W => sliceSH a n cap k (by have := hkl.out; have := hR.out.cap; omega) W
      have sl2 := fun W => sliceSL a n cap k (by have := hkl.out; omega) W
      rw [ha2.out, hm.out, hc.out] at sl2
      have hR1 : Hid (RdS w a k cap (ss.take k)) := hR.out.take (by have := hkl.out; omega)
      have hR2 : Hid (RdS w a2 m c (ss.drop k)) := hR.out.drop hm.out hc.out ha2.out
      have bx : Hid (x.size ≤ 1000000) := by show _ ≤ _; rw [← hx.out]; exact (hS.take k).root
      have by' : Hid (y.size ≤ 1000000) := by show _ ≤ _; rw [← hy.out]; exact (hS.drop k).root
      have c1 : Hid (∀ W, Below w.heap.size w W → Calls Tryd.prog 22 #[.slice a k cap] W fun e w' => e = .returned (.string x) ∧ Below W.heap.size W w') := fun W hW =>
        ih (ss.take k) x a k cap W hx (by have := hkl.out; omega) (by have := hkl.out; omega) (hS.take k) (hL.below hW hL.two) (hR1.out.below hW)
      have c2 : Hid (∀ W, Below w.heap.size w W → Calls Tryd.prog 22 #[.slice a2 m c] W fun e w' => e = .returned (.string y) ∧ Below W.heap.size W w') := fun W hW =>
        ih (ss.drop k) y a2 m c W hy (by have := hkp.out; have := hm.out; omega) (by have := hm.out; omega) (hS.drop k) (hL.below hW hL.two) (hR2.out.below hW)
      have c3 : Hid (∀ W, Below w.heap.size w W → Calls Tryd.prog 19 #[.string x, .string y] W fun e w' => e = .returned (.string v) ∧ Below W.heap.size W w') := fun W hW =>
        nodez_any x y v hxy.out bx.out by'.out W (hL.below hW hL.two)
      have hB0 := Below.refl w.heap.size w
      clear hS h0 h1 ih hR1 hR2 hxy bx by' hL hR hx hy hv ha2 hc hm hkl hkp
      go_enter Tryd.func22, Tryd.ntmps22
      go_wp2_with (fail)
      refine (splitz_any n k hk.out h2 (by omega) _).mono ?_
      rintro e w1 ⟨rfl, rfl⟩
      go_wp2_with (fail)
      go_region_held3 (fun W => Below w.heap.size w W)
        (first | assumption | exact Below.drew (by assumption) | exact below_then (by assumption) (by assumption))
        (first
          | (go_at_call 22; (with_reducible refine Calls.mono (c1.out _ ?_) ?_); (focus assumption); rintro e w7 ⟨rfl, hb7⟩)
          | (go_at_call 22; (with_reducible refine Calls.mono (c2.out _ ?_) ?_); (focus assumption); rintro e w8 ⟨rfl, hb8⟩)
          | (go_at_call 19; (with_reducible refine Calls.mono (c3.out _ ?_) ?_); (focus assumption); rintro e w9 ⟨rfl, hb9⟩))
      go_wp2_with (fail)
      go_ret
      exact ⟨rfl, by assumption⟩
end Go.Proofs.YtgkomejckbccdaaDoor
