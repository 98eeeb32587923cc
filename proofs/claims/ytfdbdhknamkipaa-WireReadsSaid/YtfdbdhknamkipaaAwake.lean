import Derived.Test.YtfdbdhknamkipaaReadB
import Derived.Test.YtfdbdhknamkipaaBits
namespace Go.Proofs.Ytfdbdhknamkipaa
open Go.RowKit
theorem rUint_any (R : Nat) (a : Option Addr) (cap : Nat) (bs : List Nat) (pos last : Nat) (w : World) (h : RD w R a cap bs pos last 0) (hb : ∀ x ∈ bs, x < 256) :
    Calls Try.prog 27 #[.pointer (some ⟨R, 0, none⟩)] w (UintPost R a cap bs pos w (En.num (bs.drop pos))) := by
  have hmf : ∀ (fn : Fn) (first cap : Array Value) (w : World), (Instr.makeFunc fn first cap).run Try.prog w = .ok (.func fn first cap) w := fun _ _ _ _ => rfl
  have hc := readU_any R a cap bs pos last w h hb
  cases hn : En.num (bs.drop pos) with
  | none =>
    rw [hn] at hc
    have hc2 := hidIt hc
    clear hc hn
    go_enter Try.func27, Try.ntmps27
    go_wp2_with (fail)
    refine hc2.out.mono ?_
    rintro e w1 ⟨hg, rfl, hr⟩
    go_wp2_with (fail)
    go_ret
    exact ⟨hg, rfl, hr⟩
  | some r =>
    obtain ⟨n, k⟩ := r
    rw [hn] at hc
    have hc2 := hidIt hc
    clear hc hn
    go_enter Try.func27, Try.ntmps27
    go_wp2_with (fail)
    refine hc2.out.mono ?_
    rintro e w1 ⟨hg, rfl, hr⟩
    go_wp2_with (fail)
    go_ret
    exact ⟨hg, rfl, hr⟩
theorem rBool_any (R : Nat) (a : Option Addr) (cap : Nat) (bs : List Nat) (pos last : Nat) (w : World) (h : RD w R a cap bs pos last 0) :
    Calls Try.prog 28 #[.pointer (some ⟨R, 0, none⟩)] w (BoolPost R a cap bs pos w (boolAt bs pos)) := by
  have hmf : ∀ (fn : Fn) (first cap : Array Value) (w : World), (Instr.makeFunc fn first cap).run Try.prog w = .ok (.func fn first cap) w := fun _ _ _ _ => rfl
  have hc := readB_any R a cap bs pos last w h
  cases hn : boolAt bs pos with
  | none =>
    rw [hn] at hc
    have hc2 := hidIt hc
    clear hc hn
    go_enter Try.func28, Try.ntmps28
    go_wp2_with (fail)
    refine hc2.out.mono ?_
    rintro e w1 ⟨hg, rfl, hr⟩
    go_wp2_with (fail)
    go_ret
    exact ⟨hg, rfl, hr⟩
  | some v =>
    rw [hn] at hc
    have hc2 := hidIt hc
    clear hc hn
    go_enter Try.func28, Try.ntmps28
    go_wp2_with (fail)
    refine hc2.out.mono ?_
    rintro e w1 ⟨hg, rfl, hr⟩
    go_wp2_with (fail)
    go_ret
    exact ⟨hg, rfl, hr⟩
theorem rEnd_err (R : Nat) (a : Option Addr) (cap : Nat) (bs : List Nat) (pos last err : Nat) (w : World) (h : RD w R a cap bs pos last err) (he : err ≠ 0) :
    Calls Try.prog 19 #[.pointer (some ⟨R, 0, none⟩)] w fun e w' => e = .returned (.tuple #[.int .i64 pos, .int .i64 err]) ∧ ∃ m, w' = w.drewN m := by
  have c1 := h.c1
  have c3 := h.c3
  have hz : ((err : Int) == 0) = false := by simp; omega
  clear he
  go_enter Try.func19, Try.ntmps19
  go_wp2_with (fail)
  go_quiet (fail)
  go_wp2
  go_ret2
  exact ⟨rfl, _, rfl⟩
theorem rEnd_left (R : Nat) (a : Option Addr) (cap : Nat) (bs : List Nat) (pos last : Nat) (w : World) (h : RD w R a cap bs pos last 0) (hl : pos < bs.length) :
    Calls Try.prog 19 #[.pointer (some ⟨R, 0, none⟩)] w fun e w' => e = .returned (.tuple #[.int .i64 pos, .int .i64 3]) ∧ ∃ m, w' = w.drewN m := by
  have c1 := h.c1
  have c3 := h.c3
  have hz : (0 : Int) < ((bs.length - pos : Nat) : Int) := by omega
  go_enter Try.func19, Try.ntmps19
  go_wp2_with (fail)
  refine (left_any R a cap bs pos last 0 _ h).mono ?_
  rintro e w1 ⟨rfl, m, rfl⟩
  go_wp2_with (fail)
  go_ret2
  exact ⟨rfl, _, rfl⟩
theorem rEnd_ok (R : Nat) (a : Option Addr) (cap : Nat) (bs : List Nat) (pos last : Nat) (w : World) (h : RD w R a cap bs pos last 0) (hl : pos = bs.length) :
    Calls Try.prog 19 #[.pointer (some ⟨R, 0, none⟩)] w fun e w' => e = .returned (.tuple #[.int .i64 pos, .int .i64 0]) ∧ ∃ m, w' = w.drewN m := by
  have c1 := h.c1
  have c3 := h.c3
  have hz : ¬ (0 : Int) < ((bs.length - pos : Nat) : Int) := by omega
  clear hl
  go_enter Try.func19, Try.ntmps19
  go_wp2_with (fail)
  refine (left_any R a cap bs pos last 0 _ h).mono ?_
  rintro e w1 ⟨rfl, m, rfl⟩
  go_wp2_with (fail)
  go_quiet (fail)
  go_wp2
  go_ret2
  exact ⟨rfl, _, World.drewN_drewN ..⟩
theorem Bytes.drewN' {w wr : World} {a : Option Addr} {bs : List Nat} (h : Bytes w a bs) (hw : ∃ m, wr = w.drewN m) : Bytes wr a bs := by
  obtain ⟨m, rfl⟩ := hw; exact h
theorem drewN_more {w wr : World} (h : ∃ m, wr = w.drewN m) (n : Nat) : ∃ m, wr.drewN n = w.drewN m := by
  obtain ⟨m, rfl⟩ := h
  exact ⟨_, World.drewN_drewN ..⟩
theorem drewN_below {B : Nat} {w w1 : World} (h : ∃ m, w1 = w.drewN m) : Below B w w1 := by
  obtain ⟨m, rfl⟩ := h; exact below_drewN (Below.refl _ _) m
theorem same_any (a1 a2 : Option Addr) (c1 c2 : Nat) (xs ys : List Nat) (v : Bool) (hv : decide (xs = ys) = v) (w : World) (h1 : Bytes w a1 xs) (h2 : Bytes w a2 ys) (hl1 : xs.length ≤ 9223372036854775807) :
    Calls Try.prog 13 #[.slice a1 xs.length c1, .slice a2 ys.length c2] w fun e w' => e = .returned (.bool v) ∧ ∃ m, w' = w.drewN m := by
  by_cases hlen : xs.length = ys.length
  · have hq := hidIt hlen
    rw [← hlen]
    clear hlen
    go_enter Try.func13, Try.ntmps13
    go_wp2_with (fail)
    go_loopw [5] (fun i wr => ∃ k : Nat, k ≤ xs.length ∧ i = .int .i64 k ∧ Hid (∀ j, j < k → xs.getD j 0 = ys.getD j 0) ∧ Hid (∃ m, wr = w.drewN m)) (fun i _ => xs.length - (intOf i).toNat)
    case atStart => exact ⟨0, by omega, rfl, hidIt (fun j hj => by omega), hidIt ⟨0, rfl⟩⟩
    case round =>
      obtain ⟨k, hk, rfl, hall, hw⟩ := hrel
      by_cases hlt : k < xs.length
      · obtain ⟨b1, o1, rfl, e1⟩ := (h1.drewN' hw.out) k hlt
        obtain ⟨b2, o2, rfl, e2⟩ := (h2.drewN' hw.out) k (by have := hq.out; omega)
        have hz : (k : Int) < (xs.length : Int) := by omega
        by_cases heq : xs.getD k 0 = ys.getD k 0
        · have hall2 : Hid (∀ j, j < k + 1 → xs.getD j 0 = ys.getD j 0) := hidIt (fun j hj => by
            by_cases hjk : j = k
            · rw [hjk]; exact heq
            · exact hall.out j (by omega))
          rw [← heq] at e2
          generalize xs.getD k 0 = xv at *
          clear h1 h2 hall heq
          go_wp2_with (fail)
          go_quiet (fail)
          go_wp2
          go_roundw
          case rel => exact ⟨k + 1, by omega, by go_num, hall2, hidIt (drewN_more hw.out _)⟩
          case measure => simp [intOf]; omega
        · have hf : xs ≠ ys := fun e => heq (by rw [e])
          rw [decide_eq_false hf] at hv
          have hv2 := hidIt hv
          have hneq : ((xs.getD k 0 : Nat) : Int) ≠ ((ys.getD k 0 : Nat) : Int) := by omega
          generalize xs.getD k 0 = xv at *
          generalize ys.getD k 0 = yv at *
          have hneq2 : ((xv : Int) != (yv : Int)) = true := by simpa using hneq
          clear h1 h2 hall hv hf hneq
          go_wp2_with (fail)
          go_quiet (fail)
          go_wp2
          go_ret
          exact ⟨by rw [← hv2.out]; rfl, drewN_more hw.out _⟩
      · have hk2 : k = xs.length := by omega
        have ht : xs = ys := by
          apply List.ext_getElem?
          intro j
          by_cases hj : j < xs.length
          · have := hall.out j (by omega)
            have hj2 : j < ys.length := by have := hq.out; omega
            simp only [List.getD, List.getElem?_eq_getElem hj, List.getElem?_eq_getElem hj2, Option.getD_some] at this
            rw [List.getElem?_eq_getElem hj, List.getElem?_eq_getElem hj2, this]
          · rw [List.getElem?_eq_none (by omega), List.getElem?_eq_none (by have := hq.out; omega)]
        rw [decide_eq_true ht] at hv
        have hv2 := hidIt hv
        have hz : ¬ (k : Int) < (xs.length : Int) := by omega
        clear hv ht hk2
        go_wp2_with (fail)
        go_ret
        exact ⟨by rw [← hv2.out]; rfl, hw.out⟩
  · have hf : xs ≠ ys := fun e => hlen (by rw [e])
    rw [decide_eq_false hf] at hv
    subst hv
    have hne : ¬ (xs.length : Int) = (ys.length : Int) := by omega
    go_enter Try.func13, Try.ntmps13
    go_wp2_with (fail)
    go_ret
    exact ⟨rfl, 0, rfl⟩
end Go.Proofs.Ytfdbdhknamkipaa
