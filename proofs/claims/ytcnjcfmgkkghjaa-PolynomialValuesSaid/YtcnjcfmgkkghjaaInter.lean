import Derived.Test.YtcnjcfmgkkghjaaRoots
import Derived.Deep.RegionHeld3
namespace Go.Proofs.Ytcnjcfmgkkghjaa
open Go.RowKit
/-- the world in a round of Interpolate: sum, basis and the two arguments -/
structure IpR (w W : World) (a1 a2 aX aY : Option Addr) (S B X Y : List Nat) : Prop where
  s : Bytes W a1 S
  b : Bytes W a2 B
  x : Bytes W aX X
  y : Bytes W aY Y
  bel : Below w.heap.size w W
theorem IpR.next {w W W' : World} {a1 a2 aX aY : Option Addr} {S B X Y : List Nat} (h : IpR w W a1 a2 aX aY S B X Y) (hb : Below W.heap.size W W') : IpR w W' a1 a2 aX aY S B X Y :=
  ⟨h.s.below hb, h.b.below hb, h.x.below hb, h.y.below hb, h.bel.trans (hb.mono h.bel.size)⟩
theorem IpR.drew {w W : World} {a1 a2 aX aY : Option Addr} {S B X Y : List Nat} (h : IpR w W a1 a2 aX aY S B X Y) : IpR w W.drew a1 a2 aX aY S B X Y := h.next (Below.refl _ _).drew
theorem ip_cell {W : World} {b o k y : Nat} {Y : List Nat} (h : Bytes W (some ⟨b, o, none⟩) Y) (hk : k < Y.length) (hy : Y.getD k 0 = y) : W.cell? ⟨b, o + k, none⟩ = some (.int .u8 (y : Int)) := by
  obtain ⟨b', o', e, h2⟩ := h k hk
  cases e
  rw [h2, hy]
theorem IpR.all {w W : World} {a1 a2 aX : Option Addr} {S B X Y : List Nat} {b o : Nat} (h : IpR w W a1 a2 aX (some ⟨b, o, none⟩) S B X Y) {k y : Nat} (hk : k < Y.length) (hy : Y.getD k 0 = y) :
    IpR w W a1 a2 aX (some ⟨b, o, none⟩) S B X Y ∧ W.cell? ⟨b, o + k, none⟩ = some (.int .u8 (y : Int)) := ⟨h, ip_cell h.y hk hy⟩
theorem ip_eval1 {w W : World} {a1 a2 aX aY : Option Addr} {S B X Y : List Nat} (h : IpR w W a1 a2 aX aY S B X Y) (n c x : Nat) (hn : n = S.length) (hx : ∀ i, S.getD i 0 < 256) (hxb : x < 256) (hbig : n ≤ 140737488351232) (g : Nat) (hg : Pl.hor x S = g) :
    Calls Try.prog 13 #[.slice a1 n c, .int .u8 x] W fun e W' => e = .returned (.int .u8 (g : Int)) ∧ IpR w W' a1 a2 aX aY S B X Y :=
  (eval_any a1 n c x S hn hx hxb hbig W h.s).mono fun _ _ ⟨h1, h2⟩ => ⟨hg ▸ h1, h.next h2⟩
theorem ip_eval2 {w W : World} {a1 a2 aX aY : Option Addr} {S B X Y : List Nat} (h : IpR w W a1 a2 aX aY S B X Y) (n c x : Nat) (hn : n = B.length) (hx : ∀ i, B.getD i 0 < 256) (hxb : x < 256) (hbig : n ≤ 140737488351232) (g : Nat) (hg : Pl.hor x B = g) :
    Calls Try.prog 13 #[.slice a2 n c, .int .u8 x] W fun e W' => e = .returned (.int .u8 (g : Int)) ∧ IpR w W' a1 a2 aX aY S B X Y :=
  (eval_any a2 n c x B hn hx hxb hbig W h.b).mono fun _ _ ⟨h1, h2⟩ => ⟨hg ▸ h1, h.next h2⟩
def scal (B : List Nat) (c : Nat) : List Nat := Pl.fn (fun i => Gf.mul (Pl.co B i) c) B.length
theorem scal_lt {B : List Nat} {c : Nat} (hx : ∀ i, B.getD i 0 < 256) (i : Nat) : (scal B c).getD i 0 < 256 := fn_lt (fun i => Gf.mul_lt _ (hx i)) _ i
/-- sum and basis after k points -/
def ipL (X Y : List Nat) : Nat → List Nat × List Nat
  | 0 => ([], [1])
  | k + 1 => (Pl.trim (plus (ipL X Y k).1 (scal (ipL X Y k).2 (Gf.mul (Y.getD k 0 ^^^ Pl.hor (X.getD k 0) (ipL X Y k).1) (Gf.inv (Pl.hor (X.getD k 0) (ipL X Y k).2))))), root (X.getD k 0) (ipL X Y k).2)
theorem ipL_len2 (X Y : List Nat) (k : Nat) : (ipL X Y k).2.length = k + 1 := by
  induction k with
  | zero => rfl
  | succ k ih => show (root _ _).length = _; rw [root_len, ih]
theorem ipL_len1 (X Y : List Nat) (k : Nat) : (ipL X Y k).1.length ≤ k := by
  induction k with
  | zero => exact Nat.le_refl _
  | succ k ih =>
    show (Pl.trim _).length ≤ _
    rw [Pl.trim_len]
    refine Nat.le_trans (Pl.d1_le _) ?_
    unfold plus scal
    rw [Pl.fn_len, Pl.fn_len, ipL_len2]
    omega
theorem plus_lt {xs ys : List Nat} (hx : ∀ i, xs.getD i 0 < 256) (hy : ∀ i, ys.getD i 0 < 256) (i : Nat) : (plus xs ys).getD i 0 < 256 := by
  have := plus_co xs ys i
  show Pl.co _ _ < 256
  rw [this]
  exact Gf.xor_lt (hx i) (hy i)
theorem ipL_lt (X Y : List Nat) (k : Nat) : (∀ i, (ipL X Y k).1.getD i 0 < 256) ∧ (∀ i, (ipL X Y k).2.getD i 0 < 256) := by
  induction k with
  | zero =>
    refine ⟨fun i => (by simp : ([] : List Nat).getD i 0 < 256), fun i => ?_⟩
    match i with
    | 0 => show 1 < 256; decide
    | i + 1 => show ([1] : List Nat).getD (i + 1) 0 < 256; simp
  | succ k ih => exact ⟨co_trim_lt (plus_lt ih.1 (scal_lt ih.2)), root_lt ih.2⟩
end Go.Proofs.Ytcnjcfmgkkghjaa
