import Derived.Test.YtmaifngoffmjnaaDoorClones
namespace Go.Proofs.YtmaifngoffmjnaaDoor
open Go.RowKit
/-- integers as they come in -/
def RowI (w : World) (a : Option Addr) (len : Nat) (zs : List Int) : Prop := ∀ i, i < len → ∃ b off, a = some ⟨b, off, none⟩ ∧ w.cell? ⟨b, off + i, none⟩ = some (.int .i64 (zs.getD i 0))
theorem RowI.below {w wr : World} {a : Option Addr} {len : Nat} {zs : List Int} (h : RowI w a len zs) (hb : Below w.heap.size w wr) : RowI wr a len zs := by
  intro i hi
  obtain ⟨b, off, h2, h3⟩ := h i hi
  exact ⟨b, off, h2, (hb.cell (p := ⟨b, off + i, none⟩) (bytes_lt h3)).trans h3⟩
theorem cut_bytes {w : World} {a : Option Addr} {bs : List Nat} {cap lo hi : Nat} (h : Bytes w a bs) (h2 : hi ≤ bs.length) (h3 : bs.length ≤ cap) : Bytes w (if cap = lo then a else a.map fun x => x.add lo) ((bs.drop lo).take (hi - lo)) := by
  by_cases hc : cap = lo
  · intro i hi'
    rw [List.length_take, List.length_drop] at hi'
    omega
  · rw [if_neg hc]; exact sub_bytes h lo (hi - lo)
theorem sliceLH (a : Option Addr) (bs : List Nat) (cap lo hi : Nat) (h1 : lo ≤ hi) (h2 : hi ≤ bs.length) (h3 : bs.length ≤ cap) (W : World) :
    (Instr.slice 22 (.slice a bs.length cap) (some (.int .i64 (lo : Int))) (some (.int .i64 (hi : Int))) none).run Tryd.prog W = .ok (.slice (if cap = lo then a else a.map fun x => x.add lo) (hi - lo) (cap - lo)) W := by
  have h := run_slice_lh W 22 a bs.length cap (P := Tryd.prog) (by kernel_rfl) .i64 .i64 (lo : Int) (hi : Int) (by omega) (by omega) (by omega)
  rw [h]
  have e2 : (sizeOf (Tryd.prog.elem 22)).run Tryd.prog W = .ok 1 W := by kernel_rfl
  rw [e2]
  simp only [Result.andThen, sliced, Int.toNat_natCast, Nat.mul_one]
theorem sliceL (a : Option Addr) (bs : List Nat) (cap lo : Nat) (h1 : lo ≤ bs.length) (W : World) :
    (Instr.slice 22 (.slice a bs.length cap) (some (.int .i64 (lo : Int))) none none).run Tryd.prog W = .ok (.slice (if cap = lo then a else a.map fun x => x.add lo) (bs.length - lo) (cap - lo)) W := by
  have h := run_slice_l W 22 a bs.length cap (P := Tryd.prog) (by kernel_rfl) .i64 (lo : Int) (by omega) (by omega)
  rw [h]
  have e2 : (sizeOf (Tryd.prog.elem 22)).run Tryd.prog W = .ok 1 W := by kernel_rfl
  rw [e2]
  simp only [Result.andThen, sliced, Int.toNat_natCast, Nat.mul_one]
theorem Bytes.blk {w : World} {a : Option Addr} {bs : List Nat} (h : Bytes w a bs) (h0 : 0 < bs.length) : ∀ x, a = some x → x.block < w.heap.size := by
  obtain ⟨b, off, rfl, hc⟩ := h 0 h0
  intro x hx; cases hx; exact bytes_lt hc
theorem smWrite_at (g : Nat) (ys : List Nat) (a : Option Addr) (n cap : Nat) (xs : List Nat) (hn : n = xs.length) (hx : ∀ x ∈ xs, x < 256) (hbig : ys.length + xs.length ≤ 140737488355328) (hcap : xs.length ≤ cap) (w : World) (hL : Laid w) (hS : SR w g ys) (h : Bytes w a xs) (hne : 0 < xs.length → ∀ x, a = some x → x.block ≠ g) :
    Calls Tryd.prog 16 #[.pointer (some ⟨g, 0, none⟩), .slice a n cap] w fun e w' => e = .returned (.tuple #[]) ∧ SR w' g (ys ++ xs) ∧ w.grownBy w' (some g) := by
  subst hn; exact smWrite_any g ys a cap xs hx hbig hcap w hL hS h hne
set_option maxRecDepth 100000 in
set_option maxHeartbeats 4000000 in
theorem pieces_walk (a0 a1 : Option Addr) (len0 cap0 len1 cap1 : Nat) (xs : List Nat) (zs : List Int) (w : World) (hL : Laid w) (h0 : RowB w a0 len0 cap0 xs) (h1 : RowI w a1 len1 zs) :
    Calls Tryd.prog 5 #[.slice a0 len0 cap0, .slice a1 len1 cap1] w fun e w' => e = .returned (.bool true) ∧ Below w.heap.size w w' := by
  obtain rfl := h0.len
  by_cases hbig : 1000 < xs.length ∨ 20 < len1
  · go_enter Tryd.func5, Tryd.ntmps5
    go_wp2_with (fail)
    refine (awake_any _ hL).mono ?_
    rintro e w1 ⟨rfl, hb1⟩
    have L1 := hL.below hb1 hL.two
    go_wp2_with (fail)
    all_goals first
      | (refine (awake_any _ L1).mono ?_; rintro e w2 ⟨rfl, hb2⟩; go_wp2_with (fail); go_ret; exact ⟨rfl, below_then hb1 hb2⟩)
      | (exfalso; omega)
  · have b0 : xs.length ≤ 1000 := by omega
    have b1 : len1 ≤ 20 := by omega
    have t0 : ¬ (1000 : Int) < (xs.length : Int) := by omega
    have t1 : ¬ (20 : Int) < (len1 : Int) := by omega
    have hlc := h0.lecap
    have hx0 := h0.lt
    clear hbig
    go_enter Tryd.func5, Tryd.ntmps5
    go_wp2_with (fail)
    refine (awake_any _ hL).mono ?_
    rintro e w1 ⟨rfl, hb1⟩
    have L1 := hL.below hb1 hL.two
    go_wp2_with (fail)
    refine (new_any _ L1).mono ?_
    rintro e w2 ⟨rfl, hs2, hb2⟩
    have H2 := below_then hb1 hb2
    have q1 := hb1.size
    generalize hg1 : w1.heap.size = g at *
    have hg1' := hidIt hg1
    clear hg1 t0 t1 L1 hb1
    go_wp2_with (fail)
    go_loopw [7, 6] (fun i at_ wr => ∃ k p : Nat, k ≤ len1 ∧ p ≤ xs.length ∧ i = .int .i64 k ∧ at_ = .int .i64 p ∧ SR wr g (xs.take p) ∧ Below w.heap.size w wr) (fun i _ _ => len1 - (intOf i).toNat)
    case atStart => exact ⟨0, 0, by omega, by omega, rfl, rfl, hs2, H2⟩
    case round =>
      obtain ⟨k, p, hk, hp, rfl, rfl, hs, hb⟩ := hrel
      clear hs2 hb2 H2
      by_cases hlt : k < len1
      · obtain ⟨b, off, rfl, hc⟩ := h1.below hb k hlt
        obtain ⟨c, hcz⟩ : ∃ c, Hid (zs.getD k 0 = c) := ⟨_, rfl⟩
        rw [hcz.out] at hc
        have hbne : Hid (b ≠ g) := by
          obtain ⟨b', off', e1, e2⟩ := h1 k hlt
          simp only [Option.some.injEq, Addr.mk.injEq] at e1
          have := bytes_lt e2
          show _ ≠ _
          omega
        by_cases hin : (p : Int) ≤ c ∧ c ≤ (xs.length : Int)
        · obtain ⟨hc1, hc2⟩ := hin
          obtain ⟨q, rfl⟩ : ∃ q : Nat, c = (q : Int) := ⟨c.toNat, by omega⟩
          have hq1 : p ≤ q := by omega
          have hq2 : q ≤ xs.length := by omega
          have hsl := fun W => sliceLH a0 xs cap0 p q hq1 hq2 hlc W
          have hcb0 := cut_bytes (lo := p) (hi := q) h0.bytes hq2 hlc
          have hblk := hidIt hcb0.blk
          have hcb := hcb0.below hb
          clear hcb0
          generalize (if cap0 = p then a0 else a0.map fun x => x.add p) = a' at *
          have Lr := hL.below hb hL.two
          have hln : Hid (q - p = ((xs.drop p).take (q - p)).length) := by show _ = _; rw [List.length_take, List.length_drop]; omega
          have hnext : Hid (xs.take p ++ (xs.drop p).take (q - p) = xs.take q) := by
            show _ = _
            rw [← List.take_add]; congr 1; omega
          have hcap : Hid (((xs.drop p).take (q - p)).length ≤ cap0 - p) := by show _ ≤ _; rw [← hln.out]; omega
          have hbg : Hid ((xs.take p).length + ((xs.drop p).take (q - p)).length ≤ 140737488355328) := by show _ ≤ _; rw [← hln.out, List.length_take]; omega
          have hlt256 : Hid (∀ x ∈ (xs.drop p).take (q - p), x < 256) := fun x hx => hx0 x (List.mem_of_mem_drop (List.mem_of_mem_take hx))
          obtain ⟨ds, hds⟩ : ∃ ds, Hid ((xs.drop p).take (q - p) = ds) := ⟨_, rfl⟩
          rw [hds.out] at hblk hcb hln hnext hcap hbg hlt256
          have hcb1 := hidIt hcb
          clear hcb h0 h1 hx0
          go_wp2_with (fail)
          refine (smWrite_at g (xs.take p) a' (q - p) (cap0 - p) ds hln.out hlt256.out hbg.out hcap.out _ Lr hs hcb1.out (fun h x hx => by have := hblk.out h x hx; omega)).mono ?_
          rintro e w3 ⟨rfl, hs3, hg3⟩
          rw [hnext.out] at hs3
          have hb3 := SR.grown_new hb hg3 q1
          have hc3 : w3.cell? ⟨b, off + k, none⟩ = some (.int .i64 (q : Int)) := (hg3.cell (a := ⟨b, off + k, none⟩) hc (fun e => hbne.out (by cases e; rfl)))
          clear hb hg3 hs hsl
          go_wp2_with (fail)
          go_roundw
          case rel => exact ⟨k + 1, q, by omega, by omega, by go_num, rfl, hs3, hb3⟩
          case measure => simp [intOf]; omega
        · by_cases hlow : (p : Int) ≤ c
          · have hhigh : ¬ c ≤ (xs.length : Int) := by omega
            clear h0 h1 hx0 hin
            go_wp2_with (fail)
            go_roundw
            case rel => exact ⟨k + 1, p, by omega, by omega, by go_num, rfl, hs, hb⟩
            case measure => simp [intOf]; omega
          · clear h0 h1 hx0 hin
            go_wp2_with (fail)
            go_roundw
            case rel => exact ⟨k + 1, p, by omega, by omega, by go_num, rfl, hs, hb⟩
            case measure => simp [intOf]; omega
      · have hsl := fun W => sliceL a0 xs cap0 p hp W
        have hcb0 := cut_bytes (lo := p) (hi := xs.length) h0.bytes (Nat.le_refl _) hlc
        have hblk := hidIt hcb0.blk
        have hcb := hcb0.below hb
        clear hcb0
        generalize (if cap0 = p then a0 else a0.map fun x => x.add p) = a' at *
        have Lr := hL.below hb hL.two
        have hln : Hid (xs.length - p = ((xs.drop p).take (xs.length - p)).length) := by show _ = _; rw [List.length_take, List.length_drop]; omega
        have hnext : Hid (xs.take p ++ (xs.drop p).take (xs.length - p) = xs) := by
          show _ = _
          rw [← List.take_add, show p + (xs.length - p) = xs.length by omega, List.take_length]
        have hcap : Hid (((xs.drop p).take (xs.length - p)).length ≤ cap0 - p) := by show _ ≤ _; rw [← hln.out]; omega
        have hbg : Hid ((xs.take p).length + ((xs.drop p).take (xs.length - p)).length ≤ 140737488355328) := by show _ ≤ _; rw [← hln.out, List.length_take]; omega
        have hlt256 : Hid (∀ x ∈ (xs.drop p).take (xs.length - p), x < 256) := fun x hx => hx0 x (List.mem_of_mem_drop (List.mem_of_mem_take hx))
        obtain ⟨ds, hds⟩ : ∃ ds, Hid ((xs.drop p).take (xs.length - p) = ds) := ⟨_, rfl⟩
        rw [hds.out] at hblk hcb hln hnext hcap hbg hlt256
        have hcb1 := hidIt hcb
        clear hcb h1
        go_wp2_with (fail)
        refine (smWrite_at g (xs.take p) a' (xs.length - p) (cap0 - p) ds hln.out hlt256.out hbg.out hcap.out _ Lr hs hcb1.out (fun h x hx => by have := hblk.out h x hx; omega)).mono ?_
        rintro e w3 ⟨rfl, hs3, hg3⟩
        rw [hnext.out] at hs3
        have hb3 := SR.grown_new hb hg3 q1
        have L3 := hL.below hb3 hL.two
        clear hsl
        go_wp2_with (fail)
        refine (smSum_any g xs (by omega) _ L3 hs3).mono ?_
        rintro e w4 ⟨rfl, hb4⟩
        have H4 := below_then hb3 hb4
        have L4 := hL.below H4 hL.two
        have s4 := hs3.below hb4
        go_wp2_with (fail)
        refine (sum_any a0 cap0 xs hx0 (by omega) hlc _ L4 (h0.bytes.below H4) (fun h x hx => by have := h0.bytes.blk h x hx; have := H4.size; omega)).mono ?_
        rintro e w5 ⟨rfl, hb5⟩
        have H5 := below_then H4 hb5
        have s5 := s4.below hb5
        obtain ⟨st, hst⟩ : ∃ st, Hid (str (Sh.sum xs) = st) := ⟨_, rfl⟩
        rw [hst.out]
        have v1 : (st.toList == st.toList) = true := by simp
        go_wp2_with (fail)
        refine (len_any g xs _ s5).mono ?_
        rintro e w6 ⟨rfl, rfl⟩
        go_wp2_with (fail)
        go_ret
        exact ⟨rfl, H5⟩
end Go.Proofs.YtmaifngoffmjnaaDoor
