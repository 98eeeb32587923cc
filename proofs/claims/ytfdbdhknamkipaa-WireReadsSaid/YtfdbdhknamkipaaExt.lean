import Derived.Test.YtfdbdhknamkipaaReadS
namespace Go.Proofs.Ytfdbdhknamkipaa
open Go.RowKit
/-- from w to wr only the row of v has been written, and u is that row or a new one -/
def Fd (w : World) (v : Value) (wr : World) (u : Value) : Prop := w.grownBy wr v.ownBlock ∧ (u.ownBlock = v.ownBlock ∨ ∀ q, u.ownBlock = some q → w.heap.size ≤ q)
theorem Fd.refl (w : World) (v : Value) : Fd w v w v := ⟨g_refl _ _, .inl rfl⟩
theorem Fd.step {w wr w3 : World} {v u : Value} {o : Obj} {g n cap : Nat} (h : Fd w v wr u) (hg : (wr.alloc o).grownBy w3 u.ownBlock) (hl : u.ownBlock = some g ∨ g = wr.heap.size + 1) : Fd w v w3 (.slice (some ⟨g, 0, none⟩) n cap) := by
  obtain ⟨h1, h2⟩ := h
  have h3 := g_alloc h1 o
  refine ⟨⟨hg.os.trans h3.os, hg.tape.trans h3.tape, hg.output.trans h3.output, Nat.le_trans h3.size hg.size, fun k hk hr => ?_⟩, ?_⟩
  · refine (hg.block k (Nat.lt_of_lt_of_le hk h3.size) ?_).trans (h3.block k hk hr)
    rcases h2 with h2 | h2
    · rw [h2]; exact hr
    · intro e; have := h2 k e.symm; omega
  · show some g = _ ∨ ∀ q, some g = some q → _
    rcases hl with hl | hl
    · rcases h2 with h2 | h2
      · left; rw [← h2, hl]
      · right; intro q e; exact h2 q (by rw [hl, e])
    · right; intro q e; have := h1.size; simp at e; omega
set_option maxRecDepth 100000 in
theorem extend2_any (v : Value) (k base n : Nat) (bs : List Nat) (hn : n < 18446744073709551616) (hk : k = bs.length) (hbig : k + 10 ≤ 140737488355328) (w : World) (hb0 : base ≤ w.heap.size) (hown : w.ownsRow base 5 1 v k (vals bs)) :
    Calls Try.prog 45 #[v, .int .u64 n] w fun e w' => ∃ v', e = .returned v' ∧ w'.ownsRow base 5 1 v' (bs ++ En.enc n).length (vals (bs ++ En.enc n)) ∧ Below base w w' ∧ Fd w v w' v' := by
  obtain ⟨i0, hi, hz0, hz1, hz2⟩ := info_parts info5
  go_enter Try.func45, Try.ntmps45
  go_wp2
  go_loopw [0, 1] (fun u m wr => ∃ (f q : Nat) (cs : List Nat), m = .int .u64 q ∧ q < 2 ^ (7 * f + 1) ∧ Hid (cs ++ En.encF f q = bs ++ En.enc n) ∧ cs.length + f + 1 ≤ k + 10 ∧ wr.ownsRow base 5 1 u cs.length (vals cs) ∧ Below base w wr ∧ Hid (Fd w v wr u)) (fun _ m _ => (intOf m).toNat)
  case atStart => exact ⟨9, n, bs, rfl, by simpa using hn, hidIt rfl, by omega, hk ▸ hown, Below.refl _ _, hidIt (Fd.refl w v)⟩
  case round =>
    obtain ⟨f, q, cs, rfl, hq, hrel, hlen, hown, hb, hfd⟩ := hrel
    by_cases hlt : 128 ≤ q
    · obtain ⟨f, rfl⟩ : ∃ g, f = g + 1 := ⟨f - 1, by cases f with | zero => simp at hq; omega | succ f => rfl⟩
      have hq8 : (q : Int) % 256 = ((q % 256 : Nat) : Int) := by omega
      have hor := hidIt (byte_or ⟨q % 256, Nat.mod_lt _ (by decide)⟩)
      have hor2 : Hid (bits BinOp.or IntKind.u8 ((q : Int) % 256) 128 = ((q % 128 + 128 : Nat) : Int)) := by
        show _ = _
        rw [hq8, hor.out, show q % 256 % 128 = q % 128 by omega]
      have hn2 : Hid ((cs ++ [q % 128 + 128]) ++ En.encF f (q / 128) = bs ++ En.enc n) := by
        show _ = _
        rw [← hrel.out, En.encF_step f q hlt]; simp
      have hq2 : q / 128 < 2 ^ (7 * f + 1) := by
        rw [Nat.div_lt_iff_lt_mul (by decide)]
        rw [show 7 * (f + 1) + 1 = (7 * f + 1) + 7 by omega, Nat.pow_add] at hq
        simpa using hq
      have hl2 : (cs ++ [q % 128 + 128]).length + f + 1 ≤ k + 10 := by simp; omega
      clear hq8 hor hrel hq
      go_wp2_with (at_builtin; refine wpList_append_lies _ rfl _ _ 25 rfl base 5 i0 (.int .u8 0) 1 1 Try.underlying25 hi hz0 hz1 hz2 rfl (by decide) _ _ _ rfl (hown.alloc _) ⟨wr.heap.size, 0, none⟩ 1 1 [(.int .u8 (bits BinOp.or IntKind.u8 ((q : Int) % 256) 128))] rfl rfl ?c1 ?c2 (by decide) ?c3 ?c4 ?c5 _ rfl ?_)
      case c1 =>
        intro j u hj
        match j, hj with
        | 0, hj => simp at hj; subst hj; simp [Addr.add]
      case c2 => intro u hu; simp at hu; subst hu; rfl
      case c3 => unfold maxLen; omega
      case c4 => omega
      case c5 => have := hb.size; simp; omega
      intro g3 cap3 w3 hown3 hg3 hlie _
      have hfd3 := hidIt (hfd.out.step (n := cs.length + 1) (cap := cap3) hg3 hlie)
      have hb3 := (hb.alloc (Nat.le_trans hb0 hb.size) _).grown hg3 (by have := hb.size; simp; omega) (fun q hq => (hown.lt q hq).1)
      rw [hor2.out] at hown3
      have hown4 : w3.ownsRow base 5 1 (.slice (some ⟨g3, 0, none⟩) (cs.length + 1) cap3) (cs ++ [q % 128 + 128]).length (vals (cs ++ [q % 128 + 128])) := by
        rw [← vals_append, List.length_append]; exact hown3
      have hown5 := hidIt hown4
      clear hown hb hg3 hown3 hown4 hor2 hlie hfd
      go_wp2
      go_roundw
      case rel => exact ⟨f, q / 128, _, by simp, hq2, hn2, hl2, hown5.out, hb3, hfd3⟩
      case measure => simp [intOf]; omega
    · have hq8 : Hid ((q : Int) % 256 = (q : Int)) := by show _ = _; omega
      have hn2 : Hid (cs ++ [q] = bs ++ En.enc n) := by
        show _ = _
        rw [← hrel.out, En.encF_last f q (by omega)]
      clear hrel hq
      go_wp2_with (at_builtin; refine wpList_append_lies _ rfl _ _ 25 rfl base 5 i0 (.int .u8 0) 1 1 Try.underlying25 hi hz0 hz1 hz2 rfl (by decide) _ _ _ rfl (hown.alloc _) ⟨wr.heap.size, 0, none⟩ 1 1 [(.int .u8 (q : Int))] rfl rfl ?c1 ?c2 (by decide) ?c3 ?c4 ?c5 _ rfl ?_)
      case c1 =>
        intro j u hj
        match j, hj with
        | 0, hj => simp at hj; subst hj; simp [Addr.add]
      case c2 => intro u hu; simp at hu; subst hu; rfl
      case c3 => unfold maxLen; omega
      case c4 => omega
      case c5 => have := hb.size; simp; omega
      intro g3 cap3 w3 hown3 hg3 hlie _
      have hfd3 := hidIt (hfd.out.step (n := cs.length + 1) (cap := cap3) hg3 hlie)
      have hb3 := (hb.alloc (Nat.le_trans hb0 hb.size) _).grown hg3 (by have := hb.size; simp; omega) (fun q hq => (hown.lt q hq).1)
      have hown4 : w3.ownsRow base 5 1 (.slice (some ⟨g3, 0, none⟩) (cs.length + 1) cap3) (bs ++ En.enc n).length (vals (bs ++ En.enc n)) := by
        rw [← hn2.out, ← vals_append, List.length_append]; exact hown3
      clear hown hb hg3 hown3 hlie hfd
      go_wp2
      go_ret
      exact ⟨_, rfl, hown4, hb3, hfd3.out⟩
end Go.Proofs.Ytfdbdhknamkipaa
