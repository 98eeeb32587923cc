import Derived.Test.YtlpggkdmjmlpkaaRf4
import Derived.Test.YtlpggkdmjmlpkaaDpl
namespace Go.Proofs.Ytlpggkdmjmlpkaa
open Go.RowKit
/-- what the reference's Read returns -/
def RRd (w : World) (r : Nat × List Nat) (e : Ending) (w' : World) : Prop := ∃ a c, e = .returned (.tuple #[.slice a r.2.length c, .int .i64 (r.1 : Int)]) ∧ Rd w' a r.2.length r.2 ∧ Below w.heap.size w w'
set_option maxRecDepth 100000 in
set_option maxHeartbeats 1000000 in
theorem rread_any (g : Nat) (S : Nat → Prop) (D : Dsk) (s : Int) (w : World) (h : Hid (RK w S g D)) (hnp : D.np ≤ 1000000) :
    Calls Try.prog 33 #[.pointer (some ⟨g, 0, none⟩), .int .i64 s] w fun e w' => RRd w (D.read s) e w' := by
  obtain ⟨⟨dv, lv, Q, C, P, PC, hX0, hS0⟩, hlt0⟩ := h.out
  have hX := hidIt hX0
  have F := hidIt hX0.fields
  obtain ⟨f0, f1, f2, f3, f4, fz⟩ := hX0.fields
  have hwf := hidIt hX0.wf
  have hz2 := hX0.wf.s2
  have hz1 := hX0.wf.s1
  have hn2 := hX0.wf.n2
  obtain ⟨db, dc, hdv, _, _, hdc⟩ := hX0.durc
  obtain ⟨a0, c0, hlv, hpc, _⟩ := hX0.pend
  clear hX0 hS0 hlt0 h
  by_cases hd : D.down = true
  · have he : Hid (D.read s = (8, [])) := by show _ = _; unfold Dsk.read; rw [if_pos hd]
    rw [hd] at f3
    rw [he.out]
    go_enter Try.func33, Try.ntmps33
    go_wp2
    go_ret2
    exact ⟨none, 0, rfl, Rd.nil _, Below.refl _ _⟩
  · have hd' : D.down = false := by simpa using hd
    have dH : Hid (Calls Try.prog 43 #[.pointer (some ⟨g, 0, none⟩), .int .i64 s] w fun e w' => e = .returned (.bool (decide (0 ≤ s ∧ s < D.n))) ∧ w = w') := rsector_any g db D.n dc D.size lv D.left D.down s w (by rw [← hdv]; exact F.out) (by omega)
    rw [hd'] at f3
    by_cases hh : 0 ≤ s ∧ s < (D.n : Int)
    · rw [decide_eq_true hh] at dH
      have he : Hid (D.read s = (0, D.cur s.toNat)) := by show _ = _; unfold Dsk.read; rw [if_neg hd, if_pos hh]
      rw [he.out]
      obtain ⟨k, rfl⟩ : ∃ k : Nat, s = (k : Int) := ⟨s.toNat, by omega⟩
      rw [Int.toNat_natCast]
      have hkn : k < D.n := by omega
      have c1 := (hdc k hkn).1
      have tk : (k : Int) < (D.n : Int) := by omega
      have hcl : Hid ((D.cur k).length = D.size ∧ ∀ x ∈ D.cur k, x < 256) := Dsk.cur_ok hwf.out k hkn D.np (Nat.le_refl _)
      subst hdv hlv
      have hR0 : Hid (RB w (Q k) (D.curN k 0) ∧ D.size ≤ C k) := ⟨hX.out.sec k hkn, hX.out.cap k hkn⟩
      obtain ⟨n, hn⟩ : ∃ n, Hid (D.np = n) := ⟨_, rfl⟩
      obtain ⟨z, hzz⟩ : ∃ z, Hid (D.size = z) := ⟨_, rfl⟩
      rw [hn.out] at f2 hnp
      rw [hzz.out] at c1 hcl hR0 hz1 hz2
      clear hdc f0 f4 fz F hd hh he hpc
      go_enter Try.func33, Try.ntmps33
      go_wp2_with (fail)
      refine dH.out.mono ?_
      rintro e w1 ⟨rfl, rfl⟩
      go_wp2_with (fail)
      go_loopw [6, 7] (fun ov i wr => ∃ (m b c : Nat), i = .int .i64 (m : Int) ∧ m ≤ n ∧ ov = .slice (some ⟨b, 0, none⟩) z c ∧ Hid (RB wr b (D.curN k m) ∧ z ≤ c) ∧ Hid (Below w.heap.size w wr)) (fun _ i _ => n - (intOf i).toNat)
      case atStart => exact ⟨0, Q k, C k, rfl, by omega, rfl, hR0, Below.refl _ _⟩
      case round =>
        obtain ⟨m, b, c, rfl, hm, rfl, hrb, hbw⟩ := hrel
        have k2 := (hX.out.below hbw.out).fields.pend
        rw [← hn.out] at hm
        by_cases hmn : m < D.np
        · obtain ⟨b0, rfl, hbs, d0, d1⟩ := (hX.out.below hbw.out).pcell hmn
          rw [hzz.out] at d1
          have hpm : Hid (RB wr (P m) (D.pb m) ∧ z ≤ PC m) := ⟨(hX.out.below hbw.out).pen m hmn, by rw [← hzz.out]; exact hX.out.pcap m hmn⟩
          rw [hn.out] at hmn hm k2
          have t1 : (m : Int) < (n : Int) := by omega
          by_cases hs : D.ps m = k
          · have hcu : Hid (D.curN k (m + 1) = D.pb m) := by show _ = _; rw [Dsk.curN, if_pos hs]
            rw [hs] at d0
            clear hs hX
            go_wp2_with (fail)
            exact ⟨⟨m + 1, P m, PC m, by go_num, by omega, rfl, by rw [hcu.out]; exact hpm, hbw⟩, by simp [intOf]; omega⟩
          · have hcu : Hid (D.curN k (m + 1) = D.curN k m) := by show _ = _; rw [Dsk.curN, if_neg hs]
            obtain ⟨x, hx⟩ : ∃ x, Hid (D.ps m = x) := ⟨_, rfl⟩
            rw [hx.out] at hs d0
            have t2 : ((x : Int) == (k : Int)) = false := by simp; omega
            clear hX
            go_wp2_with (fail)
            exact ⟨⟨m + 1, b, c, by go_num, by omega, rfl, by rw [hcu.out]; exact hrb, hbw⟩, by simp [intOf]; omega⟩
        · have hme : m = D.np := by omega
          have hcu : Hid (D.curN k m = D.cur k) := by rw [hme]; rfl
          rw [hcu.out] at hrb
          have tn : ¬ (m : Int) < (n : Int) := by rw [← hn.out]; omega
          obtain ⟨bs, hbs⟩ : ∃ bs, Hid (D.cur k = bs) := ⟨_, rfl⟩
          rw [hbs.out] at hrb hcl
          rw [hn.out] at k2
          have hown0 := hidIt (emptyOwnAt wr wr.heap.size (Nat.le_refl _))
          have hbE : Below wr.heap.size wr (wr.alloc (.cells #[] 5)) := (Below.refl _ _).alloc (Nat.le_refl _) _
          have hrE := hidIt (hrb.out.1.bytes.below hbE)
          have hsE : Hid (wr.heap.size ≤ (wr.alloc (.cells #[] 5)).heap.size) := hbE.size
          have hbE' := hidIt hbE
          have hzl : Hid (z = bs.length) := hcl.out.1.symm
          have hbig : Hid (0 + bs.length ≤ 140737488355328) := by show _ ≤ _; rw [← hzl.out]; omega
          have hfin : Hid (∀ v3 w3, w3.ownsRow wr.heap.size 5 1 v3 (0 + bs.length) (vals ([] ++ bs)) → (wr.alloc (.cells #[] 5)).grownBy w3 (some wr.heap.size) → ∃ a c, v3 = .slice a bs.length c ∧ RRd w (0, bs) (.returned (.tuple #[.slice a bs.length c, .int .i64 0])) w3) := fun v3 w3 ho hg => by
            have hb3 : Below wr.heap.size wr w3 := hbE'.out.grown hg hsE.out (fun q hq => by cases hq; exact Nat.le_refl _)
            rw [Nat.zero_add, List.nil_append] at ho
            obtain ⟨b3, c3, rfl, k1, _, k2, k3⟩ := own_rb ho (by rw [← hzl.out]; exact hz1)
            exact ⟨_, _, rfl, _, _, rfl, ⟨k3.bytes, rfl, hcl.out.2⟩, below_then hbw.out hb3⟩
          clear hX hrb hcl hmn hme hm hbE hR0
          go_wp2_with (at_builtin; refine wpList_append_bytes _ rfl _ _ rfl wr.heap.size (.slice (some ⟨wr.heap.size, 0, none⟩) 0 0) 0 (vals []) rfl hown0.out (some ⟨b, 0, none⟩) z c bs rfl hzl.out hrE.out (fun e => by cases e) hbig.out hsE.out ?_; intro v3 w3 ho3 hg3; obtain ⟨a3, c3, rfl, hR⟩ := hfin.out _ _ ho3 hg3; replace hR := hidIt hR; clear ho3 hg3)
          go_ret2
          rw [hbs.out]
          exact hR.out
    · rw [decide_eq_false hh] at dH
      have he : Hid (D.read s = (1, [])) := by show _ = _; unfold Dsk.read; rw [if_neg hd, if_neg hh]
      rw [he.out]
      clear hh
      go_enter Try.func33, Try.ntmps33
      go_wp2_with (fail)
      refine dH.out.mono ?_
      rintro e w1 ⟨rfl, rfl⟩
      go_wp2_with (fail)
      go_ret2
      exact ⟨none, 0, rfl, Rd.nil _, Below.refl _ _⟩
end Go.Proofs.Ytlpggkdmjmlpkaa
