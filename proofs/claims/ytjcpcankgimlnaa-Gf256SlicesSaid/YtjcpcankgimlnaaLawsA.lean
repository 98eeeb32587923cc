import Derived.Test.YtjcpcankgimlnaaAwake
import Derived.OpenShut
namespace Go.Proofs.Ytjcpcankgimlnaa
open Go.RowKit
theorem nat_u8 {a : Int} (h : (Lit.int .u8 a).wf = true) : ∃ n : Nat, n < 256 ∧ a = n := by
  have := bounds_u8 h
  exact ⟨a.toNat, by omega, by omega⟩
theorem mul_at {a b : Int} (x y : Nat) (z : Int) (ha : a = x) (hb : b = y) (hx : x < 256) (hy : y < 256) (h : (Gf.mul x y : Int) = z) (w : World) :
    Calls Try.prog 15 #[.int .u8 a, .int .u8 b] w fun e w' => e = .returned (.int .u8 z) ∧ w = w' := by
  subst ha hb h; exact mul_any x y hx hy w
theorem add_at {a b : Int} (x y : Nat) (z : Int) (ha : a = x) (hb : b = y) (hx : x < 256) (hy : y < 256) (h : ((x ^^^ y : Nat) : Int) = z) (w : World) :
    Calls Try.prog 14 #[.int .u8 a, .int .u8 b] w fun e w' => e = .returned (.int .u8 z) ∧ w = w' := by
  subst ha hb h; exact add_any x y hx hy w
theorem sqrt_at {a : Int} (x : Nat) (z : Int) (ha : a = x) (hx : x < 256) (h : (Gf.sqrt x : Int) = z) (w : World) :
    Calls Try.prog 23 #[.int .u8 a] w fun e w' => e = .returned (.int .u8 z) ∧ w = w' := by
  subst ha h; exact sqrt_any x hx w
theorem dblA : ∀ a : Fin 128, ((a.val : Int) * 2 % 256) = (Gf.X a.val : Int) := by decide +kernel
theorem dblB : ∀ a : Fin 256, 128 ≤ a.val → bits BinOp.xor IntKind.u8 ((a.val : Int) * 2 % 256) 29 = (Gf.X a.val : Int) := by decide +kernel
set_option maxRecDepth 100000 in
theorem doubles_walk (a0 a1 : Int) (w0 : (Lit.int .u8 a0).wf = true) (w1 : (Lit.int .u8 a1).wf = true) (w : World) :
    Calls Try.prog 7 #[.int .u8 a0, .int .u8 a1] w fun e w' => e = .returned (.bool true) ∧ Below w.heap.size w w' := by
  obtain ⟨a, ha, rfl⟩ := nat_u8 w0
  obtain ⟨b, hb, rfl⟩ := nat_u8 w1
  have hX := Gf.X_lt ha
  have hm := Gf.mul_lt b (show 2 < 256 by decide)
  have e1 : Gf.mul 2 a = Gf.X a := (Gf.X_eq_mul ha).symm
  have e2 : Gf.mul a (Gf.mul 2 b) = Gf.mul (Gf.X a) b := by
    rw [Gf.mul_assoc ha (by decide) hb, Gf.mul_comm ha (by decide), e1]
  have E1 := hidIt e1
  have E2 := hidIt e2
  clear e1 e2 w0 w1
  by_cases hlt : a < 128
  · have hd : Hid ((Gf.X a : Int) = (a : Int) * 2) := by have := dblA ⟨a, hlt⟩; simp only at this; rw [← this]; show _ = _; omega
    go_enter Try.func7, Try.ntmps7
    go_wp2_with (fail)
    refine (awake_any _).mono ?_
    rintro e w1 ⟨rfl, hb1⟩
    go_wp2_with (fail)
    refine (mul_at 2 b _ rfl rfl (by decide) hb rfl _).mono ?_
    rintro e w' ⟨rfl, rfl⟩
    go_wp2_with (fail)
    refine (mul_at 2 a ((a : Int) * 2) rfl rfl (by decide) ha (by rw [E1.out, hd.out]) _).mono ?_
    rintro e w' ⟨rfl, rfl⟩
    go_wp2_with (fail)
    refine (mul_at a (Gf.mul 2 b) (Gf.mul (Gf.X a) b : Nat) rfl rfl ha hm (by rw [E2.out]) _).mono ?_
    rintro e w' ⟨rfl, rfl⟩
    go_wp2_with (fail)
    refine (mul_at (Gf.X a) b _ hd.out.symm rfl hX hb rfl _).mono ?_
    rintro e w' ⟨rfl, rfl⟩
    go_wp2_with (fail)
    go_ret
    exact ⟨rfl, hb1⟩
  · have hd : Hid ((Gf.X a : Int) = bits BinOp.xor IntKind.u8 ((a : Int) * 2 % 256) 29) := (dblB ⟨a, ha⟩ (by simpa using hlt)).symm
    go_enter Try.func7, Try.ntmps7
    go_wp2_with (fail)
    refine (awake_any _).mono ?_
    rintro e w1 ⟨rfl, hb1⟩
    go_wp2_with (fail)
    refine (mul_at 2 b _ rfl rfl (by decide) hb rfl _).mono ?_
    rintro e w' ⟨rfl, rfl⟩
    go_wp2_with (fail)
    refine (mul_at 2 a (bits BinOp.xor IntKind.u8 ((a : Int) * 2 % 256) 29) rfl rfl (by decide) ha (by rw [E1.out, hd.out]) _).mono ?_
    rintro e w' ⟨rfl, rfl⟩
    go_wp2_with (fail)
    refine (mul_at a (Gf.mul 2 b) (Gf.mul (Gf.X a) b : Nat) rfl rfl ha hm (by rw [E2.out]) _).mono ?_
    rintro e w' ⟨rfl, rfl⟩
    go_wp2_with (fail)
    refine (mul_at (Gf.X a) b _ hd.out.symm rfl hX hb rfl _).mono ?_
    rintro e w' ⟨rfl, rfl⟩
    go_wp2_with (fail)
    go_ret
    exact ⟨rfl, hb1⟩
end Go.Proofs.Ytjcpcankgimlnaa
