import Derived.Test.YtlpggkdmjmlpkaaDbk
import Derived.Stop.RegionWithIn
namespace Go.Proofs.Ytlpggkdmjmlpkaa
open Go.RowKit Go.Shelf
attribute [local go_sem] Oper.semAt_some
/-- what Read returns: a copy of bs, or an error -/
def RdR (w : World) (e : Ending) (w' : World) (size c : Nat) (bs : List Nat) : Prop :=
  (c ≠ 0 ∧ e = .returned (.tuple #[.slice none 0 0, .int .i64 (c : Int)]) ∨ c = 0 ∧ ∃ q, e = .returned (.tuple #[.slice (some ⟨q, 0, none⟩) size size, .int .i64 0]) ∧ w.heap.size ≤ q ∧ BB w' q bs) ∧ Below w.heap.size w w'
theorem keepsOthers_below {W W' : World} (h : Below W.heap.size W W') : KeepsOthers W W' :=
  ⟨h.size, fun k o hk _ => (h.block k (by
    rcases Nat.lt_or_ge k W.heap.size with h1 | h1
    · exact h1
    · rw [Array.getElem?_eq_none h1] at hk; cases hk)).trans hk⟩
theorem boxed_below {W W' : World} {B : Nat} {t : TypeId} {v : Value} (h : Boxed W B t v) (hb : Below W.heap.size W W') : Boxed W' B t v := (hb.block B h.lt).trans h
theorem blk_kept {X Y : World} {row : Option Nat} {b : Nat} {t : TypeId} {cs : Array Value} (h : Blk X b t cs) (hg : X.grownBy Y row) (hr : ∀ r, row = some r → ∃ o : Obj, X.heap[r]? = some o ∧ o.isCells = false) : Blk Y b t cs := h.grown hg (fun e => by
  obtain ⟨o, ho, hc⟩ := hr b e.symm
  rw [show X.heap[b]? = _ from h] at ho; cases ho; cases hc)
theorem curN_found (D : Dsk) (s x : Nat) : ∀ m, x < m → D.ps x = s → (∀ i, x < i → i < m → D.ps i ≠ s) → D.curN s m = D.pb x
  | m + 1, h, h1, h2 => by
    unfold Dsk.curN
    by_cases e : x = m
    · subst e; rw [if_pos h1]
    · rw [if_neg (h2 m (by omega) (by omega))]
      exact curN_found D s x m (by omega) h1 (fun i a b => h2 i a (by omega))
theorem curN_none (D : Dsk) (s : Nat) : ∀ m, (∀ i, i < m → D.ps i ≠ s) → D.curN s m = D.dur s
  | 0, _ => rfl
  | m + 1, h => by
    unfold Dsk.curN
    rw [if_neg (h m (by omega))]
    exact curN_none D s m (fun i hi => h i (by omega))
/-- a region, inside a fence, all of whose orders come to one frame and a world of R -/
def ToR (R : World → Prop) (A : Act) : Exit → Act → World → Prop
  | .normal, a, w => a = A ∧ R w
  | _, _, _ => False
theorem wpIn_to {F : Fence} {n : Nat} {P : Program} {c : Code} {Q : Exit → Act → World → Prop} {a : Act} {w : World} (R : World → Prop) (A : Act) (h1 : c.wpIn F n P (ToR R A) a w) (h2 : ∀ W', R W' → Q .normal A W') : c.wpIn F n P Q a w :=
  wpIn_mono h1 (fun e _ _ h => by
    cases e with
    | normal => obtain ⟨rfl, h3⟩ := h; exact h2 _ h3
    | _ => exact h.elim)
/-- between two rounds of Read -/
def RI (D : Dsk) (n k : Nat) (W0 : World) (pre : List (Ix' n)) (W : World) : Prop := (∀ y ∈ pre, D.ps y.1 ≠ k) ∧ Below W0.heap.size W0 W
/-- a round of Read has found a write -/
def RX (D : Dsk) (n k z B2 B3 : Nat) (w : World) (cc : Code) (pre : List (Ix' n)) (W : World) : Prop :=
  (cc = .ret ∧ ∃ p0 x q, pre = p0 ++ [x] ∧ (∀ y ∈ p0, D.ps y.1 ≠ k) ∧ D.ps x.1 = k ∧ Boxed W B2 39 (.slice (some ⟨q, 0, none⟩) z z) ∧ Boxed W B3 25 (.int .i64 0) ∧ BB W q (D.pb x.1) ∧ w.heap.size ≤ q) ∧ Below w.heap.size w W
/-- Read's end: both results stand in their cells -/
structure RE (D : Dsk) (k z B2 B3 Dd : Nat) (w : World) (q : Nat) (W : World) : Prop where
  df : W.heap[Dd]? = some (.deferred (some []))
  b2 : Boxed W B2 39 (.slice (some ⟨q, 0, none⟩) z z)
  b3 : Boxed W B3 25 (.int .i64 0)
  cur : BB W q (D.cur k)
  lo : w.heap.size ≤ q
  below : Below w.heap.size w W
  dlo : w.heap.size ≤ Dd
section
variable {D : Dsk} {k z B2 B3 Dd : Nat} {w : World} {q : Nat} {W : World}
theorem RE.c2 (h : RE D k z B2 B3 Dd w q W) : (W.putObj Dd (.deferred none)).cell? ⟨B2, 0, none⟩ = some (.slice (some ⟨q, 0, none⟩) z z) := cell_kept h.b2.cell (grownBy_putObj' _ Dd (.deferred none)) (fun r e => by cases e; exact ⟨_, h.df, rfl⟩)
theorem RE.c3 (h : RE D k z B2 B3 Dd w q W) : (W.putObj Dd (.deferred none)).cell? ⟨B3, 0, none⟩ = some (.int .i64 0) := cell_kept h.b3.cell (grownBy_putObj' _ Dd (.deferred none)) (fun r e => by cases e; exact ⟨_, h.df, rfl⟩)
theorem RE.bb (h : RE D k z B2 B3 Dd w q W) : BB (W.putObj Dd (.deferred none)) q (D.cur k) := blk_kept h.cur (grownBy_putObj' _ Dd (.deferred none)) (fun r e => by cases e; exact ⟨_, h.df, rfl⟩)
theorem RE.bel (h : RE D k z B2 B3 Dd w q W) : Below w.heap.size w (W.putObj Dd (.deferred none)) := h.below.grown (grownBy_putObj' _ Dd (.deferred none)) h.below.size (fun r e => by cases e; exact h.dlo)
end
theorem ri_own (D : Dsk) (n k : Nat) (W0 : World) : OwnFrom W0.heap.size (RI D n k W0) := fun _ _ _ _ hs hg hr => ⟨hs.1, hs.2.grown hg hs.2.size (fun r e => (hr r e).1)⟩
theorem rx_own (D : Dsk) (n k z B2 B3 : Nat) (w W0 : World) (hw : w.heap.size ≤ W0.heap.size) (cc : Code) : OwnFrom W0.heap.size (RX D n k z B2 B3 w cc) := fun _ _ _ _ hs hg hr => by
  obtain ⟨⟨e, p0, x, q, h1, h2, h3, h4, h5, h6, h7⟩, h8⟩ := hs
  have hr' : ∀ r, _ = some r → ∃ o : Obj, _ ∧ o.isCells = false := fun r e => (hr r e).2
  exact ⟨⟨e, p0, x, q, h1, h2, h3, blk_kept h4 hg hr', blk_kept h5 hg hr', blk_kept h6 hg hr', h7⟩, h8.grown hg h8.size (fun r e => Nat.le_trans hw (hr r e).1)⟩
theorem rx_cur {D : Dsk} {k : Nat} {pre p0 : List (Ix' D.np)} {x : Ix' D.np} (hp : ∃ j, j ≤ D.np ∧ pre.map (·.1) = downs D.np j) (e : pre = p0 ++ [x]) (h0 : ∀ y ∈ p0, D.ps y.1 ≠ k) (h1 : D.ps x.1 = k) : D.cur k = D.pb x.1 := by
  obtain ⟨j, hj, hm⟩ := hp
  rw [e, List.map_append, List.map_singleton] at hm
  have hl := congrArg List.length hm
  rw [List.length_append, List.length_map, downs_len, List.length_singleton] at hl
  obtain ⟨i, rfl⟩ : ∃ i, j = i + 1 := ⟨j - 1, by omega⟩
  rw [downs_succ] at hm
  obtain ⟨hm1, hm2⟩ := List.append_inj hm (by rw [List.length_map, downs_len]; omega)
  have hx : x.1 = D.np - 1 - i := by simpa using hm2
  refine curN_found D k x.1 D.np x.2 h1 (fun q a b => ?_)
  have hq : q ∈ p0.map (·.1) := by rw [hm1, downs_mem _ _ _ (by omega)]; omega
  obtain ⟨y, hy, rfl⟩ := List.mem_map.1 hq
  exact h0 y hy
theorem ri_cur {D : Dsk} {k : Nat} {pre : List (Ix' D.np)} (hm : pre.map (·.1) = downs D.np D.np) (h0 : ∀ y ∈ pre, D.ps y.1 ≠ k) : D.cur k = D.dur k := by
  refine curN_none D k D.np (fun i hi => ?_)
  have hq : i ∈ pre.map (·.1) := by rw [hm, downs_mem _ _ _ (Nat.le_refl _)]; omega
  obtain ⟨y, hy, rfl⟩ := List.mem_map.1 hq
  exact h0 y hy
theorem read_err (w : World) (g : Nat) (s : Int) (c z : Nat) (hc : c ≠ 0) : ((((w.alloc (.cells #[.pointer (some ⟨g, 0, none⟩)] 24)).alloc (.cells #[.int .i64 s] 3)).alloc (.cells #[.slice none 0 0] 39)).alloc (.cells #[.int .i64 (c : Int)] 25)).cell? ⟨w.heap.size + 1 + 1, 0, none⟩ = some (.slice none 0 0) ∧ ((((w.alloc (.cells #[.pointer (some ⟨g, 0, none⟩)] 24)).alloc (.cells #[.int .i64 s] 3)).alloc (.cells #[.slice none 0 0] 39)).alloc (.cells #[.int .i64 (c : Int)] 25)).cell? ⟨w.heap.size + 1 + 1 + 1, 0, none⟩ = some (.int .i64 (c : Int)) ∧ RdR w (.returned (.tuple #[.slice none 0 0, .int .i64 (c : Int)])) ((((w.alloc (.cells #[.pointer (some ⟨g, 0, none⟩)] 24)).alloc (.cells #[.int .i64 s] 3)).alloc (.cells #[.slice none 0 0] 39)).alloc (.cells #[.int .i64 (c : Int)] 25)) z c [] := by
  have b2 := Boxed.new ((w.alloc (.cells #[.pointer (some ⟨g, 0, none⟩)] 24)).alloc (.cells #[.int .i64 s] 3)) 39 (.slice none 0 0)
  have b3 := Boxed.new (((w.alloc (.cells #[.pointer (some ⟨g, 0, none⟩)] 24)).alloc (.cells #[.int .i64 s] 3)).alloc (.cells #[.slice none 0 0] 39)) 25 (.int .i64 (c : Int))
  rw [World.size_alloc, World.size_alloc] at b2
  rw [World.size_alloc, World.size_alloc, World.size_alloc] at b3
  exact ⟨(b2.alloc _).cell, b3.cell, .inl ⟨hc, rfl⟩, ((((Below.refl _ w).alloc (Nat.le_refl _) _).alloc (by simp) _).alloc (by simp; omega) _).alloc (by simp; omega) _⟩
set_option maxRecDepth 100000 in
set_option maxHeartbeats 4000000 in
theorem read_any (g : Nat) (S : Nat → Prop) (D : Dsk) (s : Int) (w : World) (h : Hid (DK w S g D)) (hnp : D.np ≤ 1000000) :
    Calls Try.prog 26 #[.pointer (some ⟨g, 0, none⟩), .int .i64 s] w fun e w' => RdR w e w' D.size (D.read s).1 (D.read s).2 := by
  obtain ⟨⟨dB, A, pv, P, hX0, hS0⟩, hlt0⟩ := h.out
  have hX := hidIt hX0
  obtain ⟨f0, f1, f2, f3, f4, fz⟩ := hX0.fields
  have hz2 := hX0.wf.s2
  have hn2 := hX0.wf.n2
  obtain ⟨a, c, hpv, hpc, _⟩ := hX0.pend
  subst hpv
  clear hX0 hS0 hlt0 h f0 f1 f3 fz
  have hb0 : Below w.heap.size w ((((w.alloc (.cells #[.pointer (some ⟨g, 0, none⟩)] 24)).alloc (.cells #[.int .i64 s] 3)).alloc (.cells #[.slice none 0 0] 39)).alloc (.cells #[.int .i64 0] 25)) := ((((Below.refl _ w).alloc (Nat.le_refl _) _).alloc (by simp) _).alloc (by simp; omega) _).alloc (by simp; omega) _
  have h4 := (hb0.cell (p := ⟨g, 4, none⟩) (bytes_lt f4)).trans f4
  have h2 := (hb0.cell (p := ⟨g, 2, none⟩) (bytes_lt f2)).trans f2
  by_cases hd : D.down = true
  · rw [hd] at h4
    have he : Hid (D.read s = (8, [])) := by show _ = _; unfold Dsk.read; rw [if_pos hd]
    rw [he.out]
    obtain ⟨hc2, hc3, hR⟩ := read_err w g s 8 D.size (by decide)
    replace hR := hidIt hR
    clear hd
    go_enter Try.func26, Try.ntmps26
    go_wp2
    refine bodyPost_ret (v := .tuple #[.slice none 0 0, .int .i64 8]) ?_ rfl hR.out
    simp [results, Try.f26, go_sem]
  · have hd' : D.down = false := by simpa using hd
    rw [hd'] at h4
    by_cases hh : 0 ≤ s ∧ s < (D.n : Int)
    · have hsn : s.toNat < D.n := by omega
      obtain ⟨k, hk⟩ : ∃ k : Nat, s = (k : Int) := ⟨s.toNat, by omega⟩
      subst hk
      simp only [Int.toNat_natCast] at hsn
      have he : Hid (D.read (k : Int) = (0, D.cur k)) := by show _ = _; unfold Dsk.read; rw [if_neg hd, if_pos hh]; rfl
      have dH : Hid (Calls Try.prog 38 #[.pointer (some ⟨g, 0, none⟩), .int .i64 (k : Int)] ((((w.alloc (.cells #[.pointer (some ⟨g, 0, none⟩)] 24)).alloc (.cells #[.int .i64 (k : Int)] 3)).alloc (.cells #[.slice none 0 0] 39)).alloc (.cells #[.int .i64 0] 25)) fun e w' => e = .returned (.bool true) ∧ ((((w.alloc (.cells #[.pointer (some ⟨g, 0, none⟩)] 24)).alloc (.cells #[.int .i64 (k : Int)] 3)).alloc (.cells #[.slice none 0 0] 39)).alloc (.cells #[.int .i64 0] 25)) = w') := by
        have := has_any g dB D.n D.size (.slice a D.np c) D.left D.down (k : Int) _ (hX.out.below hb0).fields (by omega)
        rw [decide_eq_true hh] at this
        exact this
      rw [he.out]
      refine (callsIn_wide (n := 5)).1 ?_
      refine callsIn_of_wp_marks Try.func26 rfl trivial ?_ rfl
      simp only [Try.ntmps26, List.size_toArray, List.length_cons, List.length_nil, Nat.reduceAdd, Nat.reduceSub, Array.replicate_succ, Array.replicate_zero, List.push_toArray, List.append_toArray, List.nil_append, List.cons_append]
      gi_wp2_with (fail)
      refine ⟨trivial, (callsIn_wide.2 dH.out).mono ?_⟩
      rintro e w' ⟨rfl, rfl⟩
      gi_wp2_with (fail)
      refine ⟨trivial, (backw_in Fence.wide _ trivial rfl _ _ _ _).mono ?_⟩
      rintro e w' ⟨rfl, rfl⟩
      gi_wp2_with (fail)
      have hbf : Below w.heap.size w (((((w.alloc (.cells #[.pointer (some ⟨g, 0, none⟩)] 24)).alloc (.cells #[.int .i64 (k : Int)] 3)).alloc (.cells #[.slice none 0 0] 39)).alloc (.cells #[.int .i64 0] 25)).alloc (.cells #[.slice a D.np c] 60)) := hb0.alloc (by simp; omega) _
      have b0 := Boxed.new w 24 (.pointer (some ⟨g, 0, none⟩))
      have b1 := Boxed.new (w.alloc (.cells #[.pointer (some ⟨g, 0, none⟩)] 24)) 3 (.int .i64 (k : Int))
      have b2 := Boxed.new ((w.alloc (.cells #[.pointer (some ⟨g, 0, none⟩)] 24)).alloc (.cells #[.int .i64 (k : Int)] 3)) 39 (.slice none 0 0)
      have b3 := Boxed.new (((w.alloc (.cells #[.pointer (some ⟨g, 0, none⟩)] 24)).alloc (.cells #[.int .i64 (k : Int)] 3)).alloc (.cells #[.slice none 0 0] 39)) 25 (.int .i64 0)
      have b4 := Boxed.new ((((w.alloc (.cells #[.pointer (some ⟨g, 0, none⟩)] 24)).alloc (.cells #[.int .i64 (k : Int)] 3)).alloc (.cells #[.slice none 0 0] 39)).alloc (.cells #[.int .i64 0] 25)) 60 (.slice a D.np c)
      rw [World.size_alloc] at b1
      rw [World.size_alloc, World.size_alloc] at b2
      rw [World.size_alloc, World.size_alloc, World.size_alloc] at b3
      rw [World.size_alloc, World.size_alloc, World.size_alloc, World.size_alloc] at b4
      have c0 := (((b0.alloc (.cells #[.int .i64 (k : Int)] 3)).alloc (.cells #[.slice none 0 0] 39)).alloc (.cells #[.int .i64 0] 25)).alloc (.cells #[.slice a D.np c] 60)
      have c1 := ((b1.alloc (.cells #[.slice none 0 0] 39)).alloc (.cells #[.int .i64 0] 25)).alloc (.cells #[.slice a D.np c] 60)
      have c2 := (b2.alloc (.cells #[.int .i64 0] 25)).alloc (.cells #[.slice a D.np c] 60)
      have c3 := b3.alloc (.cells #[.slice a D.np c] 60)
      have hszf : (((((w.alloc (.cells #[.pointer (some ⟨g, 0, none⟩)] 24)).alloc (.cells #[.int .i64 (k : Int)] 3)).alloc (.cells #[.slice none 0 0] 39)).alloc (.cells #[.int .i64 0] 25)).alloc (.cells #[.slice a D.np c] 60)).heap.size = w.heap.size + 5 := by simp
      clear b0 b1 b2 b3 h2 h4 hb0 dH
      generalize (((((w.alloc (.cells #[.pointer (some ⟨g, 0, none⟩)] 24)).alloc (.cells #[.int .i64 (k : Int)] 3)).alloc (.cells #[.slice none 0 0] 39)).alloc (.cells #[.int .i64 0] 25)).alloc (.cells #[.slice a D.np c] 60)) = W0 at *
      obtain ⟨B, hB⟩ : ∃ B, Hid (w.heap.size = B) := ⟨_, rfl⟩
      obtain ⟨B1, hB1⟩ : ∃ B1, Hid (B + 1 = B1) := ⟨_, rfl⟩
      obtain ⟨B2, hB2⟩ : ∃ B2, Hid (B1 + 1 = B2) := ⟨_, rfl⟩
      obtain ⟨B3, hB3⟩ : ∃ B3, Hid (B2 + 1 = B3) := ⟨_, rfl⟩
      obtain ⟨B4, hB4⟩ : ∃ B4, Hid (B3 + 1 = B4) := ⟨_, rfl⟩
      rw [hB.out] at c0 hszf
      rw [hB.out, hB1.out] at c1
      rw [hB.out, hB1.out, hB2.out] at c2
      rw [hB.out, hB1.out, hB2.out, hB3.out] at c3
      rw [hB.out, hB1.out, hB2.out, hB3.out, hB4.out] at b4
      have hbl : Hid (B < B1 ∧ B1 < B2 ∧ B2 < B3 ∧ B3 < B4 ∧ B4 < W0.heap.size ∧ B = w.heap.size) := by have := hB.out; have := hB1.out; have := hB2.out; have := hB3.out; have := hB4.out; show _ ∧ _; omega
      rw [hB.out, hB1.out, hB2.out, hB3.out, hB4.out]
      have hX0 := hidIt (hX.out.below hbf)
      obtain ⟨n, hn⟩ : ∃ n, Hid (D.np = n) := ⟨_, rfl⟩
      obtain ⟨z, hz⟩ : ∃ z, Hid (D.size = z) := ⟨_, rfl⟩
      refine wpIn_rangeFunc_ownH rfl (by decide) (gf := 46) (lb := #[.pointer (some ⟨B4, 0, none⟩)]) rfl trivial (enters_of Try.func46 (by kernel_rfl) rfl)
        (backw_stops Fence.wide _ trivial rfl (by decide) B4 W0.heap.size a D.np c D.ps P D.size hnp W0 (by have := hbl.out; omega) (Nat.le_refl _) b4.cell (fun j hj => by
          obtain ⟨b, e1, e2, e3, e4⟩ := hX0.out.pcell hj
          exact ⟨b, e1, e2, e3, e4⟩)) Kb.t (Kb.b (Nat.le_refl _) (by have := hbl.out; omega)) (Below.refl _ _) (fun _ => rfl)
        (RI D D.np k W0) (RX D D.np k D.size B2 B3 w) (ri_own D D.np k W0) (fun cc => rx_own D D.np k D.size B2 B3 w W0 hbf.size cc) ⟨by simp, Below.refl _ _⟩
        (fun x a' W => ∃ Bx, W.cell? ⟨Bx, 0, none⟩ = some (.int .i64 (D.ps x.1 : Int)) ∧ W.cell? ⟨Bx, 1, none⟩ = some (.slice (some ⟨P x.1, 0, none⟩) D.size D.size) ∧ a' = { tmps := #[.pointer (some ⟨g, 0, none⟩), .int .i64 (k : Int), .pointer (some ⟨B, 0, none⟩), .pointer (some ⟨B1, 0, none⟩), .pointer (some ⟨B2, 0, none⟩), .pointer (some ⟨B3, 0, none⟩), undef, .pointer (some ⟨Bx, 0, none⟩), .bool false, .pointer (some ⟨g, 0, none⟩), .pointer (some ⟨g, 0, none⟩), .pointer (some ⟨g, 4, none⟩), .bool false, .bool false, .pointer (some ⟨g, 0, none⟩), .int .i64 (k : Int), .bool true, .bool false, .pointer (some ⟨g, 0, none⟩), .pointer (some ⟨g, 0, none⟩), .pointer (some ⟨g, 2, none⟩), .slice a D.np c, .func (.func 46) #[] #[.pointer (some ⟨B4, 0, none⟩)], .int .i64 (x.1 : Int), .agg #[.int .i64 (D.ps x.1 : Int), .slice (some ⟨P x.1, 0, none⟩) D.size D.size], undef, undef, undef, undef, undef, undef, undef, undef, undef, undef, undef, undef, undef, undef, undef, undef, undef], defers := [] })
        (fun x a' _ _ _ _ hs hg hr => by
          obtain ⟨Bx, e1, e2, e3⟩ := hs
          exact ⟨Bx, cell_kept e1 hg (fun r e => (hr r e).2), cell_kept e2 hg (fun r e => (hr r e).2), e3⟩) ?assign ?body ?done ?stop
      case assign =>
        rintro l pre x W K hi hK
        have hWB := hi.2.size
        obtain ⟨sx, hsx⟩ : ∃ sx, Hid (D.ps x.1 = sx) := ⟨_, rfl⟩
        obtain ⟨px, hpx⟩ : ∃ px, Hid (P x.1 = px) := ⟨_, rfl⟩
        have hbw := wbox_new W sx px D.size
        have hk2 := hK
        clear hK
        rw [hsx.out, hpx.out] at hk2
        simp only [encW, hsx.out, hpx.out]
        gi_wp2
        exact hk2 _ _ ((KeepsOthers.alloc _ _).from _) ⟨hbw.bel.mono hWB, hbw.bel.block B4 (by have := hbl.out; omega)⟩ ⟨hi.1, hi.2.trans (hbw.bel.mono hWB)⟩ ⟨W.heap.size, hbw.c0, hbw.c1, rfl⟩
      case body =>
        rintro l pre x a' W _ _ hi ⟨Bx, e0, e1, rfl⟩ _
        have hWB := hi.2.size
        have X1 := hX0.out.below hi.2
        have k0 := Boxed.cell (boxed_below c0 hi.2)
        have k1 := Boxed.cell (boxed_below c1 hi.2)
        obtain ⟨sx, hsx⟩ : ∃ sx, Hid (D.ps x.1 = sx) := ⟨_, rfl⟩
        obtain ⟨px, hpx⟩ : ∃ px, Hid (P x.1 = px) := ⟨_, rfl⟩
        by_cases hsk : sx = k
        · have dC : Hid (Calls Try.prog 31 #[.pointer (some ⟨g, 0, none⟩), .slice (some ⟨px, 0, none⟩) D.size D.size] W fun e w' => CpR W e w' D.size (D.pb x.1)) := by
            rw [← hpx.out]
            exact copied_any g dB D.n D.size _ D.left D.down _ D.size D.size (D.pb x.1) W X1.fields hz2 (BB.bytes (X1.pen x.1 x.2)) (X1.wf.pl x.1 x.2).symm (X1.wf.pl x.1 x.2)
          have hfin : Hid (∀ w3, BB w3 W.heap.size (D.pb x.1) → Below W.heap.size W w3 → w3.cell? ⟨B2, 0, none⟩ = some (.slice none 0 0) ∧ w3.frozen? ⟨B2, 0, none⟩ = false ∧ (w3.setCell ⟨B2, 0, none⟩ (.slice (some ⟨W.heap.size, 0, none⟩) D.size D.size)).cell? ⟨B3, 0, none⟩ = some (.int .i64 0) ∧ w3.frozen? ⟨B3, 0, none⟩ = false ∧ KeepsFrom W0.heap.size W ((w3.setCell ⟨B2, 0, none⟩ (.slice (some ⟨W.heap.size, 0, none⟩) D.size D.size)).setCell ⟨B3, 0, none⟩ (.int .i64 0)) ∧ RX D D.np k D.size B2 B3 w .ret (pre ++ [x]) ((w3.setCell ⟨B2, 0, none⟩ (.slice (some ⟨W.heap.size, 0, none⟩) D.size D.size)).setCell ⟨B3, 0, none⟩ (.int .i64 0))) := fun w3 hq hb3 => by
            have q2 := boxed_below (boxed_below c2 hi.2) hb3
            have q3 := boxed_below (boxed_below c3 hi.2) hb3
            have l := hbl.out
            have hbw : Below w.heap.size w w3 := (hbf.trans (hi.2.mono hbf.size)).trans (hb3.mono (by omega))
            refine ⟨q2.cell, q2.frozen, (q3.other (by omega) _).cell, q3.frozen, (((keepsOthers_below hb3).trans (KeepsOthers.setCell _ _ _)).trans (KeepsOthers.setCell _ _ _)).from _, ⟨rfl, pre, x, W.heap.size, rfl, hi.1, by rw [hsx.out, hsk], (q2.set _).other (by omega) _, (q3.other (by omega) _).set _, ?_, by omega⟩, (hbw.setCell (p := ⟨B2, 0, none⟩) (by show _ ≤ B2; omega) _).setCell (p := ⟨B3, 0, none⟩) (by show _ ≤ B3; omega) _⟩
            exact Blk.far (Blk.far hq (show W.heap.size ≠ B2 by omega) _) (show W.heap.size ≠ B3 by omega) _
          have t1 : ((sx : Int) == (k : Int)) = true := by simp [hsk]
          rw [hsx.out] at e0
          rw [hpx.out] at e1
          simp only [hsx.out, hpx.out]
          clear X1 hi hsk
          gi_wp2_with (fail)
          refine ⟨trivial, (CallsIn.inRound l (callsIn_wide.2 dC.out)).mono ?_⟩
          rintro e w3 ⟨rfl, hq, _, hb3⟩
          obtain ⟨d1, d2, d3, d4, d5, d6⟩ := hfin.out w3 hq hb3
          replace d5 := hidIt d5
          replace d6 := hidIt d6
          clear hq hb3 hfin dC
          gi_wp2_with (fail)
          exact ⟨d5.out, d6.out⟩
        · have t1 : ((sx : Int) == (k : Int)) = false := by simp; omega
          have hfin : Hid (RI D D.np k W0 (pre ++ [x]) W) := ⟨fun y hy => by
            rcases List.mem_append.1 hy with h | h
            · exact hi.1 y h
            · rw [List.mem_singleton] at h; rw [h, hsx.out]; exact hsk, hi.2⟩
          rw [hsx.out] at e0
          rw [hpx.out] at e1
          simp only [hsx.out, hpx.out]
          clear X1 hi hsk
          gi_wp2_with (fail)
          exact ⟨KeepsFrom.refl _ _, ⟨Below.refl _ _, rfl⟩, hfin.out⟩
      case done =>
        rintro Dd ys W hD hS hi hK
        have X1 := hX0.out.below hi.2
        have hcur := ri_cur hS hi.1
        have k0 := Boxed.cell (boxed_below c0 hi.2)
        have k1 := Boxed.cell (boxed_below c1 hi.2)
        have f1 := X1.fields.dur
        have r1 := X1.row.cell k
        rw [hdr_get _ _ _ _ hsn] at r1
        obtain ⟨v, hv'⟩ : ∃ v, Hid (v = hv D.size (A k)) := ⟨_, rfl⟩
        rw [← hv'.out] at r1
        have dC : Hid (Calls Try.prog 31 #[.pointer (some ⟨g, 0, none⟩), v] W.drew fun e w' => CpR W.drew e w' D.size (D.dur k)) := copied_sec (X1.below (Below.drew (Below.refl _ _))) hsn hv'.out
        have t1 : (k : Int) < (D.n : Int) := by omega
        have hfin : Hid (∀ w3, BB w3 W.heap.size (D.dur k) → Below W.heap.size W w3 → w3.cell? ⟨B2, 0, none⟩ = some (.slice none 0 0) ∧ w3.frozen? ⟨B2, 0, none⟩ = false ∧ (w3.setCell ⟨B2, 0, none⟩ (.slice (some ⟨W.heap.size, 0, none⟩) D.size D.size)).cell? ⟨B3, 0, none⟩ = some (.int .i64 0) ∧ w3.frozen? ⟨B3, 0, none⟩ = false ∧ w3.cell? ⟨B3, 0, none⟩ = some (.int .i64 0) ∧ RE D k D.size B2 B3 Dd w W.heap.size ((w3.setCell ⟨B2, 0, none⟩ (.slice (some ⟨W.heap.size, 0, none⟩) D.size D.size)).setCell ⟨B3, 0, none⟩ (.int .i64 0))) := fun w3 hq hb3 => by
          have q2 := boxed_below (boxed_below c2 hi.2) hb3
          have q3 := boxed_below (boxed_below c3 hi.2) hb3
          have l := hbl.out
          have hWB := hi.2.size
          have hbw : Below w.heap.size w w3 := (hbf.trans (hi.2.mono hbf.size)).trans (hb3.mono (by omega))
          have hDl : Dd < W.heap.size := (Array.getElem?_eq_some_iff.1 hK).1
          refine ⟨q2.cell, q2.frozen, (q3.other (by omega) _).cell, q3.frozen, q3.cell, ⟨?_, (q2.set _).other (by omega) _, (q3.other (by omega) _).set _, ?_, by omega, (hbw.setCell (p := ⟨B2, 0, none⟩) (by show _ ≤ B2; omega) _).setCell (p := ⟨B3, 0, none⟩) (by show _ ≤ B3; omega) _, by omega⟩⟩
          · exact (((keepsOthers_below hb3).trans (KeepsOthers.setCell _ _ _)).trans (KeepsOthers.setCell _ _ _)).same Dd _ hK rfl
          · rw [hcur]
            exact Blk.far (Blk.far hq (show W.heap.size ≠ B2 by omega) _) (show W.heap.size ≠ B3 by omega) _
        clear X1 hi hcur hv'
        gi_wp2_with (fail)
        apply wpIn_to (fun W' => Hid (RE D k D.size B2 B3 Dd w W.heap.size W'))
        case h1 =>
          gi_region_with (refine ⟨trivial, (callsIn_wide.2 dC.out).mono ?_⟩; rintro e w3 ⟨rfl, hq, _, hb3⟩; obtain ⟨d1, d2, d3, d4, d5, d6⟩ := hfin.out w3 hq ((Below.drew (Below.refl _ _)).trans hb3); replace d6 := hidIt d6; clear hq hb3)
          all_goals exact ⟨rfl, d6⟩
        case h2 =>
          rintro W' hE
          have hK' := hE.out.df
          clear hK
          gi_wp2
          refine ⟨by simp, .inl ⟨_, _, rfl, run_takeDeferred hK', ?_⟩⟩
          have hc2 := hE.out.c2
          have hc3 := hE.out.c3
          exact ⟨_, by simp [results, Try.f26, go_sem, hc2, hc3], .inr ⟨rfl, W.heap.size, rfl, hE.out.lo, hE.out.bb⟩, hE.out.bel⟩
      case stop =>
        rintro Dd cc pre W hD hS ⟨⟨rfl, p0, x, q, hp, h0, h1, q2, q3, hq, hqw⟩, hbw⟩ hK
        have hcur := rx_cur hS hp h0 h1
        have hE : RE D k D.size B2 B3 Dd w q W := ⟨hK, q2, q3, by rw [hcur]; exact hq, hqw, hbw, by have := hbl.out; omega⟩
        gi_wp2
        refine ⟨by simp, .inl ⟨_, _, rfl, run_takeDeferred hK, ?_⟩⟩
        have hc2 := hE.c2
        have hc3 := hE.c3
        exact ⟨_, by simp [results, Try.f26, go_sem, hc2, hc3], .inr ⟨rfl, q, rfl, hqw, hE.bb⟩, hE.bel⟩
    · have he : Hid (D.read s = (1, [])) := by show _ = _; unfold Dsk.read; rw [if_neg hd, if_neg hh]
      rw [he.out]
      have dH : Hid (Calls Try.prog 38 #[.pointer (some ⟨g, 0, none⟩), .int .i64 s] ((((w.alloc (.cells #[.pointer (some ⟨g, 0, none⟩)] 24)).alloc (.cells #[.int .i64 s] 3)).alloc (.cells #[.slice none 0 0] 39)).alloc (.cells #[.int .i64 0] 25)) fun e w' => e = .returned (.bool false) ∧ ((((w.alloc (.cells #[.pointer (some ⟨g, 0, none⟩)] 24)).alloc (.cells #[.int .i64 s] 3)).alloc (.cells #[.slice none 0 0] 39)).alloc (.cells #[.int .i64 0] 25)) = w') := by
        have := has_any g dB D.n D.size (.slice a D.np c) D.left D.down s _ (hX.out.below hb0).fields (by omega)
        rw [decide_eq_false hh] at this
        exact this
      obtain ⟨hc2, hc3, hR⟩ := read_err w g s 1 D.size (by decide)
      replace hR := hidIt hR
      clear hd hh
      go_enter Try.func26, Try.ntmps26
      go_wp2_with (fail)
      refine dH.out.mono ?_
      rintro e w1 ⟨rfl, rfl⟩
      go_wp2_with (fail)
      refine bodyPost_ret (v := .tuple #[.slice none 0 0, .int .i64 1]) ?_ rfl hR.out
      simp [results, Try.f26, go_sem]
end Go.Proofs.Ytlpggkdmjmlpkaa
