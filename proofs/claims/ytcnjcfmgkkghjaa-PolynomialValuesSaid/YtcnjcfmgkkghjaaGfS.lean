import Derived.Test.YtcnjcfmgkkghjaaGfA
namespace Go.Proofs.Ytcnjcfmgkkghjaa
open Go.RowKit
theorem zero16 (w : World) : (zeroValue 66).run Try.prog w = .ok (.agg (rowA .u8 (fun _ => 0) 16 0)) w := by kernel_rfl
def lowF (c : Nat) (i : Nat) : Nat := Gf.mul c i
def highF (c : Nat) (i : Nat) : Nat := Gf.mul c (i * 16)
theorem split16 : ∀ x : Fin 256, (x.val % 16) ^^^ (x.val / 16 * 16) = x.val := by decide +kernel
theorem low_high {c x : Nat} (hc : c < 256) (hx : x < 256) : lowF c (x % 16) ^^^ highF c (x / 16) = Gf.mul x c := by
  unfold lowF highF
  rw [← Gf.mul_xor hc (by omega) (by omega), split16 ⟨x, hx⟩, Gf.mul_comm hc hx]
set_option maxRecDepth 100000 in
theorem multiplier_any (c : Nat) (hc : c < 256) (w : World) :
    Calls Try.prog 56 #[.int .u8 c] w fun e w' => e = .returned (.func (Fn.func 59) #[] #[.pointer (some ⟨w.heap.size, 0, none⟩), .pointer (some ⟨w.heap.size + 1, 0, none⟩)]) ∧ w' = (w.alloc (.cells (rowA .u8 (lowF c) 16 16) 66)).alloc (.cells (rowA .u8 (highF c) 16 16) 66) := by
  have hz := zero16
  go_enter Try.func56, Try.ntmps56
  go_wp2
  go_loopw [6, 5] (fun i _ wr => ∃ k : Nat, k ≤ 16 ∧ i = .int .u8 k ∧ wr = (w.alloc (.cells (rowA .u8 (lowF c) 16 k) 66)).alloc (.cells (rowA .u8 (highF c) 16 k) 66)) (fun i _ _ => 16 - (intOf i).toNat)
  case atStart => exact ⟨0, by omega, rfl, rfl⟩
  case round =>
    obtain ⟨k, hk, rfl, rfl⟩ := hrel
    by_cases hlt : k < 16
    · have h1 := rowA_at .u8 (lowF c) 16 k hlt
      have h2 := rowA_at .u8 (highF c) 16 k hlt
      go_wp2_with (fail)
      refine (mul_at c k _ rfl rfl hc (by omega) rfl _).mono ?_
      rintro e w' ⟨rfl, rfl⟩
      go_wp2_with (fail)
      refine (mul_at c (k * 16) _ rfl (by simp) hc (by omega) rfl _).mono ?_
      rintro e w' ⟨rfl, rfl⟩
      go_wp2_with (fail)
      go_roundw
      case rel => exact ⟨k + 1, by omega, by go_num, by rw [rowA_set .u8 (lowF c) 16 k ((Gf.mul c k : Nat) : Int) rfl, rowA_set .u8 (highF c) 16 k ((Gf.mul c (k * 16) : Nat) : Int) rfl]⟩
      case measure => simp [intOf]; omega
    · obtain rfl : k = 16 := by omega
      go_wp2
      go_ret
      exact ⟨rfl, rfl⟩
theorem closure_any (c x B1 B2 : Nat) (hc : c < 256) (hx : x < 256) (w : World) (h1 : w.cell? ⟨B1, x % 16, none⟩ = some (.int .u8 (lowF c (x % 16)))) (h2 : w.cell? ⟨B2, x / 16, none⟩ = some (.int .u8 (highF c (x / 16)))) :
    Calls Try.prog 59 #[.int .u8 x, .pointer (some ⟨B1, 0, none⟩), .pointer (some ⟨B2, 0, none⟩)] w fun e w' => e = .returned (.int .u8 (Gf.mul x c)) ∧ ∃ m, w' = w.drewN m := by
  have e1 : (x : Int) % 16 < 16 := by omega
  have e2 : (x : Int) / 16 < 16 := by omega
  have l1 : lowF c (x % 16) < 256 := Gf.mul_lt _ hc
  have l2 : highF c (x / 16) < 256 := Gf.mul_lt _ hc
  go_enter Try.func59, Try.ntmps59
  go_wp2
  go_quiet (fail)
  go_wp2
  go_ret
  exact ⟨ret_u8 (by rw [u8_xor_nat _ _ l1 l2, low_high hc hx]), _, rfl⟩
/-- the state in the loop of Scale -/
structure ScR (w : World) (n c : Nat) (g : Nat → Nat) (wr : World) (k : Nat) : Prop where
  row : Blk wr (w.heap.size + 2) 5 (rowA .u8 g n k)
  low : Blk wr w.heap.size 66 (rowA .u8 (lowF c) 16 16)
  high : Blk wr (w.heap.size + 1) 66 (rowA .u8 (highF c) 16 16)
  bel : Below w.heap.size w wr
theorem ScR.start (w : World) (n c : Nat) (g : Nat → Nat) : ScR w n c g (((w.alloc (.cells (rowA .u8 (lowF c) 16 16) 66)).alloc (.cells (rowA .u8 (highF c) 16 16) 66)).alloc (.cells (rowA .u8 (fun _ => 0) n 0) 5)) 0 := by
  have e1 := Blk.new w 66 (rowA .u8 (lowF c) 16 16)
  have e2 := Blk.new (w.alloc (.cells (rowA .u8 (lowF c) 16 16) 66)) 66 (rowA .u8 (highF c) 16 16)
  have e3 := Blk.new ((w.alloc (.cells (rowA .u8 (lowF c) 16 16) 66)).alloc (.cells (rowA .u8 (highF c) 16 16) 66)) 5 (rowA .u8 (fun _ => 0) n 0)
  rw [World.size_alloc] at e2
  rw [World.size_alloc, World.size_alloc] at e3
  refine ⟨?_, (e1.alloc _).alloc _, e2.alloc _, (((Below.refl _ _).alloc (Nat.le_refl _) _).alloc (by simp) _).alloc (by simp; omega) _⟩
  rw [rowA_zero _ g (fun _ => 0)]; exact e3
theorem ScR.step {w wr : World} {n c k m v : Nat} {g : Nat → Nat} (h : ScR w n c g wr k) (hv : v = g k) : ScR w n c g ((wr.setCell ⟨w.heap.size + 2, k, none⟩ (.int .u8 v)).drewN m) (k + 1) := by
  refine ⟨?_, (h.low.far (by simp) _).drewN m, (h.high.far (by simp) _).drewN m, below_drewN (h.bel.setCell (by simp) _) _⟩
  have := h.row.set_ k (.int .u8 v)
  rw [rowA_set _ _ _ _ _ (by rw [hv])] at this
  exact this.drewN m
set_option maxRecDepth 100000 in
theorem scale_any (a : Option Addr) (n cap c : Nat) (xs : List Nat) (hn : n = xs.length) (hx : ∀ i, xs.getD i 0 < 256) (hbig : n ≤ 140737488355328) (hc : c < 256) (w : World) (h : Bytes w a xs) :
    Calls Try.prog 48 #[.slice a n cap, .int .u8 c] w fun e w' => e = .returned (.slice (some ⟨w.heap.size + 2, 0, none⟩) n n) ∧ Blk w' (w.heap.size + 2) 5 (rowA .u8 (fun i => Gf.mul (xs.getD i 0) c) n n) ∧ Below w.heap.size w w' := by
  have hmk := makeLen n hbig
  have hn2 := hidIt hn
  have hx2 := hidIt hx
  have h2 := hidIt h
  clear hn hx h
  go_enter Try.func48, Try.ntmps48
  go_wp2_with (go_at_call 56; refine (multiplier_any c hc _).mono ?_; rintro e w' ⟨rfl, rfl⟩)
  obtain ⟨F, hF⟩ : ∃ F : Nat → Nat, Hid (∀ i, F i = Gf.mul (xs.getD i 0) c) := ⟨_, fun _ => rfl⟩
  have hFe : Hid (F = fun i => Gf.mul (xs.getD i 0) c) := funext hF.out
  go_loopw [15, 7] (fun i _ wr => ∃ k : Nat, k ≤ n ∧ i = .int .i64 k ∧ ScR w n c F wr k) (fun i _ _ => n - (intOf i).toNat)
  case atStart => exact ⟨0, by omega, rfl, ScR.start ..⟩
  case round =>
    obtain ⟨k, hk, rfl, R⟩ := hrel
    by_cases hlt : k < n
    · obtain ⟨b, off, rfl, e1⟩ := h2.out k (by have := hn2.out; omega)
      obtain ⟨y, hy⟩ : ∃ y, Hid (xs.getD k 0 = y) := ⟨_, rfl⟩
      have hf : y < 256 := hy.out ▸ hx2.out k
      rw [hy.out] at e1
      have c1 : wr.cell? ⟨b, off + k, none⟩ = some (.int .u8 (y : Int)) := (R.bel.cell (p := ⟨b, off + k, none⟩) (bytes_lt e1)).trans e1
      have c2 : wr.cell? ⟨w.heap.size + 2, k, none⟩ = some (.int .u8 0) := by rw [R.row.cell, rowA_at _ _ _ _ hlt]
      have c3 := R.row.frozen k
      have c4 : wr.cell? ⟨w.heap.size, y % 16, none⟩ = some (.int .u8 (lowF c (y % 16))) := by rw [R.low.cell, rowA_all _ _ _ _ (by omega)]
      have c5 : wr.cell? ⟨w.heap.size + 1, y / 16, none⟩ = some (.int .u8 (highF c (y / 16))) := by rw [R.high.cell, rowA_all _ _ _ _ (by omega)]
      have hFk : Hid (Gf.mul y c = F k) := by show _ = _; rw [hF.out, hy.out]
      clear e1 hy
      go_wp2_with (fail)
      refine (closure_any c y _ _ hc hf _ c4 c5).mono ?_
      rintro e w' ⟨rfl, m, rfl⟩
      go_wp2_with (fail)
      go_roundw
      case rel => exact ⟨k + 1, by omega, by go_num, R.step hFk.out⟩
      case measure => simp [intOf]; omega
    · obtain rfl : k = n := by omega
      have hrow := hidIt R.row
      rw [hFe.out] at hrow
      have hb := R.bel
      clear R
      go_wp2
      go_ret
      exact ⟨rfl, hrow.out, hb⟩
end Go.Proofs.Ytcnjcfmgkkghjaa
