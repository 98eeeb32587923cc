import Derived.Test.YtlpggkdmjmlpkaaDl1
namespace Go.Proofs.Ytlpggkdmjmlpkaa
open Go.RowKit
/-- an operation on a disk -/
structure Opd where
  k : Int
  s : Int
  bs : List Nat
  n : Int
  ks : List Bool
  x : Nat
namespace Dsk
def play (D : Dsk) (o : Opd) : Nat × List Nat × Dsk :=
  if o.k = 0 then ((D.write o.s o.bs).1, [], (D.write o.s o.bs).2)
  else if o.k = 1 then ((D.read o.s).1, (D.read o.s).2, D)
  else if o.k = 2 then (D.sync.1, [], D.sync.2)
  else if o.k = 3 then (0, [], D.fail o.n)
  else if o.k = 4 then (0, [], D.crash (fun i => o.ks.getD i false) o.n)
  else if o.k = 5 then ((D.spoil o.s o.n o.x).1, [], (D.spoil o.s o.n o.x).2)
  else (0, [], D)
theorem oper_same (D : Dsk) (h : D.WF) : D.oper.2.size = D.size ∧ D.oper.2.n = D.n ∧ D.oper.2.np = D.np ∧ D.oper.2.dur = D.dur ∧ D.oper.2.ps = D.ps ∧ D.oper.2.pb = D.pb := by
  rcases oper_cases D h with ⟨_, e⟩ | ⟨_, e⟩ | ⟨_, e⟩ <;> rw [e] <;> exact ⟨rfl, rfl, rfl, rfl, rfl, rfl⟩
theorem write_same (D : Dsk) (h : D.WF) (s : Int) {b : List Nat} (hl : ∀ x ∈ b, x < 256) : (D.write s b).2.size = D.size ∧ (D.write s b).2.n = D.n ∧ (D.write s b).2.np ≤ D.np + 1 := by
  unfold Dsk.write
  split
  · exact ⟨rfl, rfl, Nat.le_succ _⟩
  · split
    · rename_i c
      obtain ⟨e1, e2, e3, _⟩ := oper_same (D.push s.toNat b) (h.push (by have := c.1; omega) c.2 hl)
      rw [e1, e2, e3]
      exact ⟨rfl, rfl, Nat.le_refl _⟩
    · exact ⟨rfl, rfl, Nat.le_succ _⟩
theorem sync_same (D : Dsk) (h : D.WF) : D.sync.2.size = D.size ∧ D.sync.2.n = D.n ∧ D.sync.2.np ≤ D.np := by
  obtain ⟨e1, e2, e3, _⟩ := oper_same D h
  unfold Dsk.sync
  split
  · exact ⟨rfl, rfl, Nat.le_refl _⟩
  · split
    · obtain ⟨c1, c2, c3, _⟩ := crN_same (fun _ => true) 0 D.oper.2 D.np
      exact ⟨c1.trans e1, c2.trans e2, Nat.zero_le _⟩
    · exact ⟨e1, e2, by rw [e3]; exact Nat.le_refl _⟩
theorem crash_same (D : Dsk) (keep : Nat → Bool) (t : Int) : (D.crash keep t).size = D.size ∧ (D.crash keep t).n = D.n ∧ (D.crash keep t).np = 0 := by
  obtain ⟨c1, c2, c3, _⟩ := crN_same keep (min (max t 0) (D.size : Int)).toNat D D.np
  exact ⟨c1, c2, rfl⟩
theorem spoil_same (D : Dsk) (s o : Int) (x : Nat) : (D.spoil s o x).2.size = D.size ∧ (D.spoil s o x).2.n = D.n ∧ (D.spoil s o x).2.np = D.np := by
  unfold Dsk.spoil; split <;> exact ⟨rfl, rfl, rfl⟩
theorem play_same (D : Dsk) (h : D.WF) (o : Opd) (hl : ∀ x ∈ o.bs, x < 256) : (D.play o).2.2.size = D.size ∧ (D.play o).2.2.n = D.n ∧ (D.play o).2.2.np ≤ D.np + 1 := by
  unfold Dsk.play
  split
  · exact write_same D h o.s hl
  · split
    · exact ⟨rfl, rfl, Nat.le_succ _⟩
    · split
      · obtain ⟨a, b, c⟩ := sync_same D h; exact ⟨a, b, by show D.sync.2.np ≤ _; omega⟩
      · split
        · exact ⟨rfl, rfl, Nat.le_succ _⟩
        · split
          · obtain ⟨a, b, c⟩ := crash_same D (fun i => o.ks.getD i false) o.n; exact ⟨a, b, by show (D.crash _ _).np ≤ _; omega⟩
          · split
            · obtain ⟨a, b, c⟩ := spoil_same D o.s o.n o.x; exact ⟨a, b, by show (D.spoil _ _ _).2.np ≤ _; omega⟩
            · exact ⟨rfl, rfl, Nat.le_succ _⟩
end Dsk
/-- the slices of an operation -/
structure OpV (W : World) (S : Nat → Prop) (o : Opd) (a : Option Addr) (l : Nat) (ka : Option Addr) (kl : Nat) : Prop where
  by_ : Bytes W a o.bs
  len : l = o.bs.length
  lt : ∀ x ∈ o.bs, x < 256
  bo : Bools W ka o.ks
  kl : kl = o.ks.length
  aw : ∀ x, ka = some x → 0 < o.ks.length → Away W S x.block
  x : o.x < 256
  n : o.n < 9223372036854775808
theorem OpV.below {W W' : World} {S : Nat → Prop} {o : Opd} {a : Option Addr} {l : Nat} {ka : Option Addr} {kl : Nat} (h : OpV W S o a l ka kl) (hb : Below W.heap.size W W') : OpV W' S o a l ka kl :=
  ⟨h.by_.below hb, h.len, h.lt, h.bo.below hb, h.kl, fun x e h0 => ⟨Nat.lt_of_lt_of_le (h.aw x e h0).1 hb.size, (h.aw x e h0).2⟩, h.x, h.n⟩
/-- what play returns -/
def PlR (w : World) (S : Nat → Prop) (g : Nat) (D : Dsk) (o : Opd) (e : Ending) (w' : World) : Prop :=
  ∃ a c S', e = .returned (.tuple #[.slice a (D.play o).2.1.length c, .int .i64 ((D.play o).1 : Int)]) ∧ Rd w' a (D.play o).2.1.length (D.play o).2.1 ∧ (∀ x, a = some x → Away w' S' x.block) ∧ DK w' S' g (D.play o).2.2 ∧ Step w w' S S'
theorem Rd.nil (w : World) : Rd w none 0 [] := ⟨fun i hi => by simp at hi, rfl, fun x hx => by simp at hx⟩
theorem Dsk.cur_ok {D : Dsk} (h : D.WF) (s : Nat) (hs : s < D.n) : ∀ k, k ≤ D.np → (D.curN s k).length = D.size ∧ ∀ x ∈ D.curN s k, x < 256
  | 0, _ => ⟨h.dl s hs, h.db s hs⟩
  | k + 1, hk => by
    unfold Dsk.curN
    split
    · exact ⟨h.pl k (by omega), h.pbb k (by omega)⟩
    · exact Dsk.cur_ok h s hs k (by omega)
set_option maxRecDepth 100000 in
set_option maxHeartbeats 2000000 in
theorem play_any (g : Nat) (S : Nat → Prop) (D : Dsk) (o : Opd) (a : Option Addr) (l c : Nat) (ka : Option Addr) (kl kc : Nat) (w : World) (h : Hid (DK w S g D)) (ho : Hid (OpV w S o a l ka kl)) (hnp : D.np ≤ 1000000) :
    Calls Try.prog 22 #[.pointer (some ⟨g, 0, none⟩), .agg #[.int .i64 o.k, .int .i64 o.s, .slice a l c, .int .i64 o.n, .slice ka kl kc, .int .u8 (o.x : Int)]] w fun e w' => PlR w S g D o e w' := by
  obtain ⟨k, s, bs, n, ks, x⟩ := o
  obtain ⟨cs, hcs⟩ : ∃ cs : Array Value, Hid (cs = #[.int .i64 k, .int .i64 s, .slice a l c, .int .i64 n, .slice ka kl kc, .int .u8 (x : Int)]) := ⟨_, rfl⟩
  obtain ⟨w1, hw1⟩ : ∃ w1, Hid (w.alloc (.cells #[.int .i64 k, .int .i64 s, .slice a l c, .int .i64 n, .slice ka kl kc, .int .u8 (x : Int)] 44) = w1) := ⟨_, rfl⟩
  have hb1 : Below w.heap.size w w1 := by rw [← hw1.out]; exact (Below.refl _ _).alloc (Nat.le_refl _) _
  have hB : Blk w1 w.heap.size 44 #[.int .i64 k, .int .i64 s, .slice a l c, .int .i64 n, .slice ka kl kc, .int .u8 (x : Int)] := by rw [← hw1.out]; exact Blk.new w _ _
  have c0 : w1.cell? ⟨w.heap.size, 0, none⟩ = some (.int .i64 k) := (hB.cell 0).trans rfl
  have c1 : w1.cell? ⟨w.heap.size, 1, none⟩ = some (.int .i64 s) := (hB.cell 1).trans rfl
  have c2 : w1.cell? ⟨w.heap.size, 2, none⟩ = some (.slice a l c) := (hB.cell 2).trans rfl
  have c3 : w1.cell? ⟨w.heap.size, 3, none⟩ = some (.int .i64 n) := (hB.cell 3).trans rfl
  have c4 : w1.cell? ⟨w.heap.size, 4, none⟩ = some (.slice ka kl kc) := (hB.cell 4).trans rfl
  have c5 : w1.cell? ⟨w.heap.size, 5, none⟩ = some (.int .u8 (x : Int)) := (hB.cell 5).trans rfl
  have hD1 := hidIt (h.out.below hb1)
  have ho1 := hidIt (ho.out.below hb1)
  have hst := hidIt (Step.of_below hb1 S)
  have hwf : D.WF := by obtain ⟨⟨_, _, _, _, hX, _⟩, _⟩ := h.out; exact hX.wf
  replace hwf := hidIt hwf
  have hn63 := ho1.out.n
  have hx256 := ho1.out.x
  have hlt := hidIt h.out.2
  have hb1' := hidIt hb1.size
  clear hB h ho hb1 hcs
  simp only at hn63 hx256
  by_cases h0 : k = 0
  · have dW := hidIt (write_any g S D s a l c bs w1 hD1 ho1.out.len ho1.out.by_ ho1.out.lt hnp)
    subst h0
    have hfin : Hid (∀ w2, (∃ S', DK w2 S' g (D.write s bs).2 ∧ Step w1 w2 S S') → PlR w S g D ⟨0, s, bs, n, ks, x⟩ (.returned (.tuple #[.slice none 0 0, .int .i64 ((D.write s bs).1 : Int)])) w2) := fun w2 ⟨S', a1, a2⟩ => ⟨none, 0, S', rfl, Rd.nil _, fun x hx => by (cases hx), a1, hst.out.trans a2⟩
    go_enter Try.func22, Try.ntmps22
    go_wp2_with (fail)
    rw [hw1.out]
    go_wp2_with (fail)
    refine dW.out.mono ?_
    rintro e w2 ⟨rfl, h2⟩
    have h3 := hidIt (hfin.out _ h2)
    clear h2
    go_wp2_with (fail)
    go_ret2
    exact h3.out
  · by_cases h1 : k = 1
    · have dR := hidIt (read_any g S D s w1 hD1 hnp)
      subst h1
      have hrl : Hid ((D.read s).1 = 0 → (D.read s).2.length = D.size ∧ ∀ x ∈ (D.read s).2, x < 256) := fun e => by
        unfold Dsk.read at e ⊢
        split at e
        · cases e
        · rename_i hd
          rw [if_neg hd]
          split at e
          · rename_i hh
            rw [if_pos hh]
            exact Dsk.cur_ok hwf.out s.toNat (by omega) D.np (Nat.le_refl _)
          · cases e
      have hre : Hid ((D.read s).1 ≠ 0 → (D.read s).2 = []) := fun e => by
        unfold Dsk.read at e ⊢
        split
        · rfl
        · rename_i hd
          rw [if_neg hd] at e
          split
          · rename_i hh; rw [if_pos hh] at e; exact absurd rfl e
          · rfl
      have hpl : Hid (D.play ⟨1, s, bs, n, ks, x⟩ = ((D.read s).1, (D.read s).2, D)) := rfl
      have hfe : Hid (∀ w2 : World, (D.read s).1 ≠ 0 → Below w1.heap.size w1 w2 → PlR w S g D ⟨1, s, bs, n, ks, x⟩ (.returned (.tuple #[.slice none 0 0, .int .i64 ((D.read s).1 : Int)])) w2) := fun w2 hc hb2 => by
        have h2 := hre.out hc
        unfold PlR
        rw [hpl.out]
        simp only [h2]
        exact ⟨none, 0, S, rfl, Rd.nil _, fun x hx => by (cases hx), hD1.out.below hb2, hst.out.then hb2⟩
      have hfg : Hid (∀ (w2 : World) (q : Nat), (D.read s).1 = 0 → w1.heap.size ≤ q → BB w2 q (D.read s).2 → Below w1.heap.size w1 w2 → PlR w S g D ⟨1, s, bs, n, ks, x⟩ (.returned (.tuple #[.slice (some ⟨q, 0, none⟩) D.size D.size, .int .i64 0])) w2) := fun w2 q hc hq hbb hb2 => by
        obtain ⟨r1, r2⟩ := hrl.out hc
        unfold PlR
        rw [hpl.out]
        simp only [hc]
        rw [r1]
        refine ⟨some ⟨q, 0, none⟩, D.size, S, rfl, ⟨hbb.bytes, r1.symm, r2⟩, fun x hx => ?_, hD1.out.below hb2, hst.out.then hb2⟩
        cases hx
        exact ⟨Blk.lt hbb, fun e => by have := hlt.out q e; have := hb1'.out; omega⟩
      go_enter Try.func22, Try.ntmps22
      go_wp2_with (fail)
      rw [hw1.out]
      go_wp2_with (fail)
      refine dR.out.mono ?_
      rintro e w2 ⟨(⟨hc, rfl⟩ | ⟨hc, q, rfl, hq, hbb⟩), hb2⟩
      · have h3 := hidIt (hfe.out w2 hc hb2)
        clear hb2
        go_wp2_with (fail)
        go_ret2
        exact h3.out
      · have h3 := hidIt (hfg.out w2 q hc hq hbb hb2)
        clear hb2 hbb
        go_wp2_with (fail)
        go_ret2
        exact h3.out
    · by_cases h2 : k = 2
      · have dW := hidIt (sync_any g S D w1 hD1 hnp)
        subst h2
        have hfin : Hid (∀ w2, (∃ S', DK w2 S' g D.sync.2 ∧ Step w1 w2 S S') → PlR w S g D ⟨2, s, bs, n, ks, x⟩ (.returned (.tuple #[.slice none 0 0, .int .i64 (D.sync.1 : Int)])) w2) := fun w2 ⟨S', a1, a2⟩ => ⟨none, 0, S', rfl, Rd.nil _, fun x hx => by (cases hx), a1, hst.out.trans a2⟩
        go_enter Try.func22, Try.ntmps22
        go_wp2_with (fail)
        rw [hw1.out]
        go_wp2_with (fail)
        refine dW.out.mono ?_
        rintro e w2 ⟨rfl, h2⟩
        have h3 := hidIt (hfin.out _ h2)
        clear h2
        go_wp2_with (fail)
        go_ret2
        exact h3.out
      · by_cases h3 : k = 3
        · have dW := hidIt (fail_any g S D n hn63 w1 hD1)
          subst h3
          have hfin : Hid (∀ w2, (DK w2 S g (D.fail n) ∧ Step w1 w2 S S) → PlR w S g D ⟨3, s, bs, n, ks, x⟩ (.returned (.tuple #[.slice none 0 0, .int .i64 0])) w2) := fun w2 ⟨a1, a2⟩ => ⟨none, 0, S, rfl, Rd.nil _, fun x hx => by (cases hx), a1, hst.out.trans a2⟩
          go_enter Try.func22, Try.ntmps22
          go_wp2_with (fail)
          rw [hw1.out]
          go_wp2_with (fail)
          refine dW.out.mono ?_
          rintro e w2 ⟨rfl, h2⟩
          have h3 := hidIt (hfin.out _ h2)
          clear h2
          go_wp2_with (fail)
          go_ret2
          exact h3.out
        · by_cases h4 : k = 4
          · have dW := hidIt (crash_any g S D ka kl kc ks n w1 hD1 ho1.out.bo ho1.out.kl ho1.out.aw hnp)
            subst h4
            have hfin : Hid (∀ w2, (∃ S', DK w2 S' g (D.crash (fun i => ks.getD i false) n) ∧ Step w1 w2 S S') → PlR w S g D ⟨4, s, bs, n, ks, x⟩ (.returned (.tuple #[.slice none 0 0, .int .i64 0])) w2) := fun w2 ⟨S', a1, a2⟩ => ⟨none, 0, S', rfl, Rd.nil _, fun x hx => by (cases hx), a1, hst.out.trans a2⟩
            go_enter Try.func22, Try.ntmps22
            go_wp2_with (fail)
            rw [hw1.out]
            go_wp2_with (fail)
            refine dW.out.mono ?_
            rintro e w2 ⟨rfl, h2⟩
            have h3 := hidIt (hfin.out _ h2)
            clear h2
            go_wp2_with (fail)
            go_ret2
            exact h3.out
          · by_cases h5 : k = 5
            · have dW := hidIt (spoil_any g S D s n x hx256 w1 hD1)
              subst h5
              have hfin : Hid (∀ w2, (∃ S', DK w2 S' g (D.spoil s n x).2 ∧ Step w1 w2 S S') → PlR w S g D ⟨5, s, bs, n, ks, x⟩ (.returned (.tuple #[.slice none 0 0, .int .i64 ((D.spoil s n x).1 : Int)])) w2) := fun w2 ⟨S', a1, a2⟩ => ⟨none, 0, S', rfl, Rd.nil _, fun x hx => by (cases hx), a1, hst.out.trans a2⟩
              go_enter Try.func22, Try.ntmps22
              go_wp2_with (fail)
              rw [hw1.out]
              go_wp2_with (fail)
              refine dW.out.mono ?_
              rintro e w2 ⟨rfl, h2⟩
              have h3 := hidIt (hfin.out _ h2)
              clear h2
              go_wp2_with (fail)
              go_ret2
              exact h3.out
            · have hpl : Hid (D.play ⟨k, s, bs, n, ks, x⟩ = (0, [], D)) := by show _ = _; unfold Dsk.play; simp only [if_neg h0, if_neg h1, if_neg h2, if_neg h3, if_neg h4, if_neg h5]
              have hfin : Hid (PlR w S g D ⟨k, s, bs, n, ks, x⟩ (.returned (.tuple #[.slice none 0 0, .int .i64 0])) w1) := by
                show PlR _ _ _ _ _ _ _
                unfold PlR
                rw [hpl.out]
                exact ⟨none, 0, S, rfl, Rd.nil _, fun x hx => by (cases hx), hD1.out, hst.out⟩
              have q0 : (k == 0) = false := by simp [h0]
              have q1 : (k == 1) = false := by simp [h1]
              have q2 : (k == 2) = false := by simp [h2]
              have q3 : (k == 3) = false := by simp [h3]
              have q4 : (k == 4) = false := by simp [h4]
              have q5 : (k == 5) = false := by simp [h5]
              clear h0 h1 h2 h3 h4 h5
              go_enter Try.func22, Try.ntmps22
              go_wp2_with (fail)
              rw [hw1.out]
              go_wp2_with (fail)
              go_ret2
              exact hfin.out
end Go.Proofs.Ytlpggkdmjmlpkaa
