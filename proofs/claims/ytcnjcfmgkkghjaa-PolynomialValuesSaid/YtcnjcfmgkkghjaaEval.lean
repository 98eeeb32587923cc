import Derived.Test.YtcnjcfmgkkghjaaBack
namespace Go.Proofs.Ytcnjcfmgkkghjaa
open Go.RowKit Go.Shelf
attribute [local go_sem] Oper.semAt_some
/-- the value that the rounds so far have made -/
def acc (x : Nat) (pre : List (Nat × Fin 256)) : Nat := pre.foldl (fun v p => Gf.mul v x ^^^ p.2.val) 0
theorem acc_snoc (x : Nat) (pre : List (Nat × Fin 256)) (p : Nat × Fin 256) : acc x (pre ++ [p]) = Gf.mul (acc x pre) x ^^^ p.2.val := by simp [acc]
theorem fold_lt {x : Nat} (pre : List (Nat × Fin 256)) : ∀ v, v < 256 → pre.foldl (fun v p => Gf.mul v x ^^^ p.2.val) v < 256 := by
  induction pre with
  | nil => intro v hv; exact hv
  | cons p t ih => intro v hv; exact ih _ (Gf.xor_lt (Gf.mul_lt _ hv) p.2.isLt)
theorem acc_lt (x : Nat) (pre : List (Nat × Fin 256)) : acc x pre < 256 := fold_lt pre 0 (by decide)
theorem acc_hor (x : Nat) (xs : List Nat) (g : Nat → Fin 256) (hg : ∀ j, (g j).val = xs.getD j 0) : ∀ k, k ≤ xs.length → acc x (upto (fromEnd xs.length g) k) = Pl.hor x (xs.drop (xs.length - k)) := by
  intro k
  induction k with
  | zero => intro _; rw [Nat.sub_zero, List.drop_length]; rfl
  | succ k ih =>
    intro hk
    have h1 : xs.length - (k + 1) < xs.length := by omega
    rw [upto_succ, acc_snoc, ih (by omega), List.drop_eq_getElem_cons h1, show xs.length - (k + 1) + 1 = xs.length - k by omega]
    show _ = Gf.mul (Pl.hor x _) x ^^^ _
    congr 1
    show (g (xs.length - 1 - k)).val = _
    rw [hg, show xs.length - 1 - k = xs.length - (k + 1) by omega, List.getD_eq_getElem?_getD, List.getElem?_eq_getElem h1]
    rfl
set_option maxRecDepth 100000 in
set_option maxHeartbeats 2000000 in
theorem eval_any (a : Option Addr) (n c x : Nat) (xs : List Nat) (hn : n = xs.length) (hx : ∀ i, xs.getD i 0 < 256) (hxb : x < 256) (hbig : n ≤ 140737488351232) (w : World) (h : Bytes w a xs) :
    Calls Try.prog 13 #[.slice a n c, .int .u8 x] w fun e w' => e = .returned (.int .u8 (Pl.hor x xs)) ∧ Below w.heap.size w w' := by
  obtain ⟨g, hg⟩ : ∃ g : Nat → Fin 256, Hid (∀ j, (g j).val = xs.getD j 0) := ⟨fun j => ⟨xs.getD j 0, hx j⟩, fun _ => rfl⟩
  have hn2 := hidIt hn
  have h2 := hidIt h
  clear hn hx h
  refine (callsIn_wide (n := 5)).1 ?_
  refine callsIn_of_wp_marks Try.func13 rfl trivial ?_ rfl
  simp only [Try.ntmps13, List.size_toArray, List.length_cons, List.length_nil, Nat.reduceAdd, Nat.reduceSub, Array.replicate_succ, Array.replicate_zero, List.push_toArray, List.append_toArray, List.nil_append, List.cons_append]
  gi_wp2_with (fail)
  refine ⟨trivial, (back_in Fence.wide _ trivial rfl _ _ _ _).mono ?_⟩
  rintro e w' ⟨rfl, rfl⟩
  gi_wp2_with (fail)
  have bX := Boxed.new w 5 (.int .u8 (x : Int))
  have bV := Boxed.new (w.alloc (.cells #[.int .u8 (x : Int)] 5)) 5 (.int .u8 0)
  have bS := Boxed.new ((w.alloc (.cells #[.int .u8 (x : Int)] 5)).alloc (.cells #[.int .u8 0] 5)) 22 (.slice a n c)
  rw [World.size_alloc] at bV
  rw [World.size_alloc, World.size_alloc] at bS
  have hB0 : Below w.heap.size w (((w.alloc (.cells #[.int .u8 (x : Int)] 5)).alloc (.cells #[.int .u8 0] 5)).alloc (.cells #[.slice a n c] 22)) := (((Below.refl _ w).alloc (Nat.le_refl _) _).alloc (by simp) _).alloc (by simp; omega) _
  refine wpIn_rangeFunc_ownG rfl (by decide) (gf := 54) (lb := #[.pointer (some ⟨w.heap.size + 2, 0, none⟩)]) rfl trivial (enters_of Try.func54 (by kernel_rfl) rfl)
    (back_stops Fence.wide _ trivial rfl (by decide) (w.heap.size + 2) w.heap.size a n c g hbig _ (by simp) (by simp; omega) bS.cell (fun j hj => by
      obtain ⟨b, off, e1, e2⟩ := h2.out j (by rw [← hn2.out]; exact hj)
      exact ⟨b, off, e1, bytes_lt e2, (hB0.cell (p := ⟨b, off + j, none⟩) (bytes_lt e2)).trans (by rw [e2, hg.out])⟩)) Kb.t (Kb.b (by simp; omega) (by simp)) (Below.refl _ _) (fun _ => rfl)
    (fun pre W => (W.cell? ⟨w.heap.size, 0, none⟩ = some (.int .u8 (x : Int)) ∧ W.cell? ⟨w.heap.size + 1, 0, none⟩ = some (.int .u8 (acc x pre : Int)) ∧ W.frozen? ⟨w.heap.size + 1, 0, none⟩ = false) ∧ Below w.heap.size w W)
    (fun _ _ _ => False)
    (OwnFrom.and (Own.from (fun s A B row hs hg hr => ⟨cell_kept hs.1 hg hr, cell_kept hs.2.1 hg hr, (frozen_kept hs.2.1 hg hr).trans hs.2.2⟩) _) (ownFrom_below (Nat.le_refl _) (by simp; omega)))
    (fun _ _ _ _ _ hs _ _ => hs)
    ⟨⟨((bX.alloc _).alloc _).cell, (bV.alloc _).cell, (bV.alloc _).frozen⟩, hB0⟩
    (fun p => { tmps := #[.slice a n c, .int .u8 (x : Int), undef, .pointer (some ⟨w.heap.size, 0, none⟩), .int .u8 0, .pointer (some ⟨w.heap.size + 1, 0, none⟩), undef, .int .u8 (p.2.val : Int), .slice a n c, .func (.func 54) #[] #[.pointer (some ⟨w.heap.size + 2, 0, none⟩)], .int .i64 (p.1 : Int), .int .u8 (p.2.val : Int), undef, undef, undef, undef, undef, undef], defers := [] }) ?assign ?body ?done ?stop
  case assign =>
    intro l p W K hK
    gi_wp2
    exact hK
  case body =>
    rintro l pre p W ⟨⟨hx, hc, hf⟩, hB⟩ _
    have hab := acc_lt x pre
    have hpb : p.2.val < 256 := p.2.isLt
    gi_wp2_with (fail)
    refine ⟨trivial, (CallsIn.inRound l (callsIn_wide.2 (mul_any (acc x pre) x hab hxb _))).mono ?_⟩
    rintro e w' ⟨rfl, rfl⟩
    gi_wp2_with (fail)
    refine ⟨trivial, (CallsIn.inRound l (callsIn_wide.2 (add_any (Gf.mul (acc x pre) x) p.2.val (Gf.mul_lt _ hab) hpb _))).mono ?_⟩
    rintro e w' ⟨rfl, rfl⟩
    gi_wp2_with (fail)
    refine ⟨(KeepsOthers.setCell _ _ _).from _, ⟨(Below.refl w.heap.size W).setCell (p := ⟨w.heap.size + 1, 0, none⟩) (by simp) _, Below.heap_setCell _ _ _ _ (by simp)⟩, ⟨?_, ?_, by rw [World.frozen?_setCell]; exact hf⟩, hB.setCell (p := ⟨w.heap.size + 1, 0, none⟩) (by simp) _⟩
    · exact (World.cell?_of_block (a := ⟨w.heap.size, 0, none⟩) (Below.heap_setCell _ _ _ _ (by simp))).trans hx
    · rw [acc_snoc]; exact World.cell?_setCell_same' _ _ _ (by rw [hc]; rfl)
  case done =>
    rintro D ys W hD rfl ⟨⟨hx, hc, _⟩, hB⟩ hK
    rw [show acc x (upto (fromEnd n g) n) = Pl.hor x xs by
      have := acc_hor x xs g hg.out xs.length (Nat.le_refl _)
      rw [Nat.sub_self, List.drop_zero] at this
      rw [hn2.out]; exact this] at hc
    gi_wp2
    refine ⟨by simp, .inl ⟨_, _, rfl, run_takeDeferred hK, ?_⟩⟩
    exact ⟨_, results_tmp rfl _ _ _, rfl, hB.trans (belowK_b (w := w) (Nat.le_refl _) W D _ _ (by simp at hD; omega) hK rfl rfl)⟩
  case stop =>
    rintro D c pre W _ _ h _
    exact h.elim
end Go.Proofs.Ytcnjcfmgkkghjaa
