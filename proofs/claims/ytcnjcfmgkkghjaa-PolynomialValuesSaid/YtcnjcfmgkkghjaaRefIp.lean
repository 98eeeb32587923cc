import Derived.Test.YtcnjcfmgkkghjaaRefDs
import Derived.Test.YtcnjcfmgkkghjaaAppB
import Derived.Deep.RegionHeld3
namespace Go.Proofs.Ytcnjcfmgkkghjaa
open Go.RowKit
theorem refpmulz_any (a1 a2 : Option Addr) (n1 n2 c1 c2 : Nat) (xs ys zs : List Nat) (hz : timesT xs ys = zs) (hx : ∀ i, xs.getD i 0 < 256) (hy : ∀ i, ys.getD i 0 < 256) (hb1 : n1 ≤ 1000) (hb2 : n2 ≤ 1000) (w : World) (h1 : Rd w a1 n1 c1 xs) (h2 : Rd w a2 n2 c2 ys) :
    Calls Try.prog 45 #[.slice a1 n1 c1, .slice a2 n2 c2] w fun e w' => (∃ a' m' c', e = .returned (.slice a' m' c') ∧ Rd w' a' m' c' zs) ∧ Below w.heap.size w w' := hz ▸ refpmul_any a1 a2 n1 n2 c1 c2 xs ys hx hy hb1 hb2 w h1 h2
theorem Rd.drew {w : World} {a : Option Addr} {m c : Nat} {l : List Nat} (h : Rd w a m c l) : Rd w.drew a m c l := h.below ((Below.refl _ _).drew)
/-- a new array that is read -/
theorem rd_new (w : World) (l : List Nat) (m : Nat) (hm : m = l.length) : Rd (w.alloc (.cells (vals l).toArray 5)) (some ⟨w.heap.size, 0, none⟩) m m l :=
  ⟨hm, bytes_lit w l _ _ rfl, (fun e => by cases e), Nat.le_refl _⟩
/-- the world in Lagrange's loops -/
structure LgR (w W : World) (aX aY a1 a2 : Option Addr) (n m1 m2 c1 c2 : Nat) (X Y S B : List Nat) : Prop where
  x : Bytes W aX X
  y : Bytes W aY Y
  s : Rd W a1 m1 c1 S
  b : Rd W a2 m2 c2 B
  bel : Below w.heap.size w W
theorem LgR.next {w W W' : World} {aX aY a1 a2 : Option Addr} {n m1 m2 c1 c2 : Nat} {X Y S B : List Nat} (h : LgR w W aX aY a1 a2 n m1 m2 c1 c2 X Y S B) (hb : Below W.heap.size W W') : LgR w W' aX aY a1 a2 n m1 m2 c1 c2 X Y S B :=
  ⟨h.x.below hb, h.y.below hb, h.s.below hb, h.b.below hb, h.bel.trans (hb.mono h.bel.size)⟩
theorem refinvz_any (a v : Nat) (ha : a < 256) (h0 : a ≠ 0) (hv : Gf.inv a = v) (w : World) :
    Calls Try.prog 49 #[.int .u8 a] w fun e w' => e = .returned (.int .u8 (v : Int)) ∧ w = w' := hv ▸ refinv_any a ha h0 w
/-- the same with the basis of the first of two products, and the two elements -/
structure LgP (w : World) (aX aY a1 a2 a3 : Option Addr) (n m1 m2 m3 c1 c2 c3 : Nat) (X Y S B C : List Nat) (W : World) : Prop where
  l : LgR w W aX aY a1 a2 n m1 m2 c1 c2 X Y S B
  r : Rd W a3 m3 c3 C
theorem LgP.next {w W W' : World} {aX aY a1 a2 a3 : Option Addr} {n m1 m2 m3 c1 c2 c3 : Nat} {X Y S B C : List Nat} (h : LgP w aX aY a1 a2 a3 n m1 m2 m3 c1 c2 c3 X Y S B C W) (hb : Below W.heap.size W W') : LgP w aX aY a1 a2 a3 n m1 m2 m3 c1 c2 c3 X Y S B C W' := ⟨h.l.next hb, h.r.below hb⟩
theorem LgP.behind {w W W' : World} {aX aY a1 a2 a3 : Option Addr} {n m1 m2 m3 c1 c2 c3 : Nat} {X Y S B C : List Nat} (hb : Below W.heap.size W W') (h : LgP w aX aY a1 a2 a3 n m1 m2 m3 c1 c2 c3 X Y S B C W) : LgP w aX aY a1 a2 a3 n m1 m2 m3 c1 c2 c3 X Y S B C W' := h.next hb
theorem LgP.new {w W : World} {aX aY a1 a2 a3 : Option Addr} {n m1 m2 m3 c1 c2 c3 : Nat} {X Y S B C : List Nat} (h : LgP w aX aY a1 a2 a3 n m1 m2 m3 c1 c2 c3 X Y S B C W) (bl : Obj) : LgP w aX aY a1 a2 a3 n m1 m2 m3 c1 c2 c3 X Y S B C (W.alloc bl) := h.next ((Below.refl _ _).alloc (Nat.le_refl _) _)
theorem LgP.drew {w W : World} {aX aY a1 a2 a3 : Option Addr} {n m1 m2 m3 c1 c2 c3 : Nat} {X Y S B C : List Nat} (h : LgP w aX aY a1 a2 a3 n m1 m2 m3 c1 c2 c3 X Y S B C W) : LgP w aX aY a1 a2 a3 n m1 m2 m3 c1 c2 c3 X Y S B C W.drew := h.next ((Below.refl _ _).drew)
theorem LgP.all {w W : World} {aY a1 a2 a3 : Option Addr} {n m1 m2 m3 c1 c2 c3 bx ox k l x y : Nat} {X Y S B C : List Nat} (h : LgP w (some ⟨bx, ox, none⟩) aY a1 a2 a3 n m1 m2 m3 c1 c2 c3 X Y S B C W) (hk : k < X.length) (hl : l < X.length) (hx : X.getD k 0 = x) (hy : X.getD l 0 = y) :
    LgP w (some ⟨bx, ox, none⟩) aY a1 a2 a3 n m1 m2 m3 c1 c2 c3 X Y S B C W ∧ W.cell? ⟨bx, ox + k, none⟩ = some (.int .u8 (x : Int)) ∧ W.cell? ⟨bx, ox + l, none⟩ = some (.int .u8 (y : Int)) := ⟨h, ip_cell h.l.x hk hx, ip_cell h.l.x hl hy⟩
set_option maxRecDepth 100000 in
set_option maxHeartbeats 1000000 in
theorem reflag_any (aX aY : Option Addr) (n cX cY : Nat) (X Y : List Nat) (hn : n = X.length) (hm : n = Y.length) (hX : ∀ i, X.getD i 0 < 256) (hY : ∀ i, Y.getD i 0 < 256) (hbig : n ≤ 100) (hd : Dst X n) (w : World) (h1 : Bytes w aX X) (h2 : Bytes w aY Y) :
    Calls Try.prog 24 #[.slice aX n cX, .slice aY n cY] w fun e w' => (∃ a' m' c', e = .returned (.slice a' m' c') ∧ Rd w' a' m' c' (lag X Y n n)) ∧ Below w.heap.size w w' := by
  have n1 := hidIt hn
  have n2 := hidIt hm
  have x2 := hidIt hX
  have y2 := hidIt hY
  have d2 := hidIt hd
  have i1 := hidIt h1
  have i2 := hidIt h2
  have nb := hidIt hbig
  clear hn hm hX hY hd h1 h2
  go_enter Try.func24, Try.ntmps24
  go_wp2_with (fail)
  go_loopw [11, 5, 6, 7, 8] (fun i s _ _ _ wr => ∃ (k m : Nat) (a : Option Addr) (c : Nat), k ≤ n ∧ i = .int .i64 k ∧ s = .slice a m c ∧ Hid (Rd wr a m c (lag X Y n k)) ∧ Hid (Below w.heap.size w wr)) (fun i _ _ _ _ _ => n - (intOf i).toNat)
  case atStart => exact ⟨0, 0, none, 0, by omega, rfl, rfl, ⟨rfl, fun i hi => absurd hi (Nat.not_lt_zero _), fun _ => ⟨rfl, rfl⟩, Nat.le_refl _⟩, Below.refl _ _⟩
  case round =>
    obtain ⟨k, m, a, c, hk, rfl, rfl, hS, hb⟩ := hrel
    by_cases hlt : k < n
    · have t1 : (k : Int) < (n : Int) := by omega
      obtain ⟨S, hSS⟩ : ∃ S, Hid (lag X Y n k = S) := ⟨_, rfl⟩
      have hS1 : Hid (Rd wr a m c S) := by show Rd _ _ _ _ _; rw [← hSS.out]; exact hS.out
      have hSl : Hid (∀ i, S.getD i 0 < 256) := by show ∀ i, _; rw [← hSS.out]; exact lag_lt n k
      have hml : Hid (m ≤ 1000) := by show _ ≤ _; rw [hS1.out.len, ← hSS.out]; have := lag_len X Y n k hk; have := nb.out; omega
      clear hS
      go_wp2_with (fail)
      have hR0 : Hid (LgR w (wr.alloc (.cells #[.int .u8 1] 5)) aX aY a (some ⟨wr.heap.size, 0, none⟩) n m 1 c 1 X Y S (bas X k 0)) := by
        have e1 : Below wr.heap.size wr (wr.alloc (.cells #[.int .u8 1] 5)) := (Below.refl _ _).alloc (Nat.le_refl _) _
        have e2 := e1.mono hb.out.size
        exact ⟨i1.out.below (hb.out.trans e2), i2.out.below (hb.out.trans e2), hS1.out.below e1, rd_new wr [1] 1 rfl, hb.out.trans e2⟩
      go_loopw [17, 7, 8] (fun i b _ wr => ∃ (l mb : Nat) (ab : Option Addr) (cb : Nat), l ≤ n ∧ i = .int .i64 l ∧ b = .slice ab mb cb ∧ Hid (LgR w wr aX aY a ab n m mb c cb X Y S (bas X k l))) (fun i _ _ _ => n - (intOf i).toNat)
      case atStart => exact ⟨0, 1, _, 1, by omega, rfl, rfl, hR0.out⟩
      case round =>
        obtain ⟨l, mb, ab, cb, hl, rfl, rfl, hR⟩ := hrel
        clear hR0 hS1 hb
        by_cases hlt2 : l < n
        · have t2 : (l : Int) < (n : Int) := by omega
          by_cases hlk : l = k
          · have t3 : ((l : Int) != (k : Int)) = false := by simp; omega
            have hR1 : Hid (LgR w wr aX aY a ab n m mb c cb X Y S (bas X k (l + 1))) := by
              have e : bas X k (l + 1) = bas X k l := if_pos hlk
              show LgR _ _ _ _ _ _ _ _ _ _ _ _ _ _ _; rw [e]; exact hR.out
            clear hR
            go_wp2
            go_roundw
            case rel => exact ⟨l + 1, mb, ab, cb, by omega, by go_num, rfl, hR1.out⟩
            case measure => simp [intOf]; omega
          · have t3 : ((l : Int) != (k : Int)) = true := by simp; omega
            obtain ⟨x, hx⟩ : ∃ x, Hid (X.getD k 0 = x) := ⟨_, rfl⟩
            obtain ⟨y, hy⟩ : ∃ y, Hid (X.getD l 0 = y) := ⟨_, rfl⟩
            have xb : x < 256 := by rw [← hx.out]; exact x2.out k
            have yb : y < 256 := by rw [← hy.out]; exact x2.out l
            have hxy : x ^^^ y ≠ 0 := by
              rw [← hx.out, ← hy.out]
              refine xor_ne ?_
              rcases Nat.lt_or_ge k l with h | h
              · exact d2.out k l h hlt2
              · exact (d2.out l k (by omega) hlt).symm
            have hxb := Gf.xor_lt xb yb
            obtain ⟨v, hv⟩ : ∃ v, Hid (Gf.inv (x ^^^ y) = v) := ⟨_, rfl⟩
            have vb : v < 256 := by rw [← hv.out]; exact Gf.pw_lt _ 254
            obtain ⟨B, hB⟩ : ∃ B, Hid (bas X k l = B) := ⟨_, rfl⟩
            have hBl : Hid (∀ i, B.getD i 0 < 256) := by show ∀ i, _; rw [← hB.out]; exact bas_lt k l
            have hBn : Hid (bas X k (l + 1) = timesT (timesT B [y, 1]) [v]) := by
              have e : bas X k (l + 1) = _ := if_neg hlk
              show _ = _; rw [e, hB.out, hx.out, hy.out, hv.out]
            have hR1 : Hid (LgR w wr aX aY a ab n m mb c cb X Y S B) := by show LgR _ _ _ _ _ _ _ _ _ _ _ _ _ _ _; rw [← hB.out]; exact hR.out
            have hmb : Hid (mb ≤ 200) := by show _ ≤ _; rw [hR1.out.b.len, ← hB.out]; have := bas_le X k l; have := nb.out; omega
            have hxor : bits BinOp.xor IntKind.u8 (x : Int) (y : Int) = ((x ^^^ y : Nat) : Int) := u8_xor_nat _ _ xb yb
            clear hR
            obtain ⟨bx, ox, rfl, e1⟩ := hR1.out.x l (by have := n1.out; omega)
            rw [hy.out] at e1
            go_wp2_with (fail)
            have hb1 : Hid (Below wr.heap.size wr (wr.alloc (.cells #[.int .u8 (y : Int), .int .u8 1] 5))) := (Below.refl _ _).alloc (Nat.le_refl _) _
            have hR2 := hidIt (hR1.out.next hb1.out)
            refine (refpmulz_any ab _ mb 2 cb 2 B [y, 1] _ rfl hBl.out (lt_two yb (by decide)) (by have := hmb.out; omega) (by omega) _ hR2.out.b (rd_new wr [y, 1] 2 rfl)).mono ?_
            rintro e w2 ⟨⟨a2, m2, c2, rfl, hr2⟩, hb2⟩
            have hR3 := hidIt (hR2.out.next hb2)
            obtain ⟨B2, hB2⟩ : ∃ B2, Hid (timesT B [y, 1] = B2) := ⟨_, rfl⟩
            rw [hB2.out] at hr2
            have hr3 := hidIt hr2
            have hB2l : Hid (∀ i, B2.getD i 0 < 256) := by show ∀ i, _; rw [← hB2.out]; exact timesT_lt hBl.out
            have hm2 : m2 ≤ 1000 := by
              rw [hr2.len, ← hB2.out]
              have := timesT_le (xs := B) (ys := [y, 1]) (a := 200) (b := 2) (by rw [← hR1.out.b.len]; exact hmb.out) (Nat.le_refl _)
              omega
            have q1 := ip_cell hR3.out.x (k := k) (y := x) (by have := n1.out; omega) hx.out
            have q2 := ip_cell hR3.out.x (k := l) (y := y) (by have := n1.out; omega) hy.out
            have hP : LgP w (some ⟨bx, ox, none⟩) aY a ab a2 n m mb m2 c cb c2 X Y S B B2 w2 := ⟨hR3.out, hr3.out⟩
            have kX : Hid (k < X.length) := by have := n1.out; show _ < _; omega
            have lX : Hid (l < X.length) := by have := n1.out; show _ < _; omega
            clear hr2 hb2 hR1 hR2 hb1 e1 hR3 hr3
            go_wp2
            go_region_held3 (fun w' => LgP w (some ⟨bx, ox, none⟩) aY a ab a2 n m mb m2 c cb c2 X Y S B B2 w' ∧ w'.cell? ⟨bx, ox + k, none⟩ = some (.int .u8 (x : Int)) ∧ w'.cell? ⟨bx, ox + l, none⟩ = some (.int .u8 (y : Int)))
              (first
                | exact LgP.all (by assumption) kX.out lX.out hx.out hy.out
                | (go_split_ands; exact LgP.all (by assumption) kX.out lX.out hx.out hy.out)
                | (go_split_ands; exact LgP.all (LgP.drew (by assumption)) kX.out lX.out hx.out hy.out)
                | (go_split_ands; exact LgP.all (LgP.new (by assumption) _) kX.out lX.out hx.out hy.out)
                | (go_split_ands; exact LgP.all (LgP.drew (LgP.new (by assumption) _)) kX.out lX.out hx.out hy.out)
                | (go_split_ands; exact LgP.all (LgP.behind (by assumption) (by assumption)) kX.out lX.out hx.out hy.out))
              (first
                | (go_at_call 49; refine (refinvz_any (x ^^^ y) v hxb hxy hv.out _).mono ?_; rintro e w7 ⟨rfl, rfl⟩)
                | (go_at_call 45; go_split_ands; refine (refpmulz_any a2 _ m2 1 c2 1 B2 [v] _ rfl hB2l.out (lt_one vb) hm2 (by omega) _ (LgP.drew (LgP.new (by assumption) _)).r (Rd.drew (rd_new _ [v] 1 rfl))).mono ?_; rintro e w8 ⟨⟨a5, m5, c5, rfl, hr5⟩, hb5⟩))
            all_goals
              have hP8 : Hid (LgP w (some ⟨bx, ox, none⟩) aY a ab a2 n m mb m2 c cb c2 X Y S B B2 w8) := LgP.next (LgP.drew (LgP.new hP _)) hb5
              have hr6 := hidIt hr5
              clear hr5 hb5
              go_wp2
              go_roundw
              case rel =>
                refine ⟨l + 1, m5, a5, c5, by omega, by go_num, rfl, ?_⟩
                show LgR _ _ _ _ _ _ _ _ _ _ _ _ _ _ _
                rw [hBn.out, hB2.out]
                exact ⟨hP8.out.l.x, hP8.out.l.y, hP8.out.l.s, hr6.out, hP8.out.l.bel⟩
              case measure => simp [intOf]; omega
        · obtain rfl : l = n := by omega
          have t2 : ¬ (l : Int) < (l : Int) := by omega
          obtain ⟨B, hB⟩ : ∃ B, Hid (bas X k l = B) := ⟨_, rfl⟩
          have hBl : Hid (∀ i, B.getD i 0 < 256) := by show ∀ i, _; rw [← hB.out]; exact bas_lt k l
          have hR1 : Hid (LgR w wr aX aY a ab l m mb c cb X Y S B) := by show LgR _ _ _ _ _ _ _ _ _ _ _ _ _ _ _; rw [← hB.out]; exact hR.out
          have hmb : Hid (mb ≤ 200) := by show _ ≤ _; rw [hR1.out.b.len, ← hB.out]; have := bas_le X k l; have := nb.out; omega
          obtain ⟨y, hy⟩ : ∃ y, Hid (Y.getD k 0 = y) := ⟨_, rfl⟩
          have yb : y < 256 := by rw [← hy.out]; exact y2.out k
          obtain ⟨by', oy, rfl, e1⟩ := hR1.out.y k (by have := n2.out; omega)
          rw [hy.out] at e1
          clear hR
          go_wp2_with (fail)
          have hb1 : Hid (Below wr.heap.size wr (wr.alloc (.cells #[.int .u8 (y : Int)] 5))) := (Below.refl _ _).alloc (Nat.le_refl _) _
          have hR2 := hidIt (hR1.out.next hb1.out)
          refine (refpmulz_any ab _ mb 1 cb 1 B [y] _ rfl hBl.out (lt_one yb) (by have := hmb.out; omega) (by omega) _ hR2.out.b (rd_new wr [y] 1 rfl)).mono ?_
          rintro e w2 ⟨⟨a2, m2, c2, rfl, hr2⟩, hb2⟩
          have hR3 := hidIt (hR2.out.next hb2)
          obtain ⟨B2, hB2⟩ : ∃ B2, Hid (timesT B [y] = B2) := ⟨_, rfl⟩
          rw [hB2.out] at hr2
          have hr3 := hidIt hr2
          have hB2l : Hid (∀ i, B2.getD i 0 < 256) := by show ∀ i, _; rw [← hB2.out]; exact timesT_lt hBl.out
          have hm2 : Hid (m2 ≤ 1000) := by
            show _ ≤ _
            rw [hr2.len, ← hB2.out]
            have := timesT_le (xs := B) (ys := [y]) (a := 200) (b := 1) (by rw [← hR1.out.b.len]; exact hmb.out) (Nat.le_refl _)
            omega
          clear hr2 hb2 hR1 hR2 hb1 e1
          go_wp2_with (fail)
          refine (refadd_any a a2 m m2 c c2 S B2 hSl.out hB2l.out hml.out hm2.out _ hR3.out.s hr3.out).mono ?_
          rintro e w4 ⟨⟨a4, m4, c4, rfl, hr4⟩, hb4⟩
          have hb5 := hidIt (hR3.out.next hb4).bel
          have hr5 : Hid (Rd w4 a4 m4 c4 (lag X Y l (k + 1))) := by
            show Rd _ _ _ _ (Pl.trim (plus (lag X Y l k) (timesT (bas X k l) [Y.getD k 0])))
            rw [hSS.out, hB.out, hy.out, hB2.out]; exact hr4
          clear hr4 hb4 hR3 hr3
          go_wp2
          go_roundw
          case rel => exact ⟨k + 1, m4, a4, c4, by omega, by go_num, rfl, hr5.out, hb5.out⟩
          case measure => simp [intOf]; omega
    · obtain rfl : k = n := by omega
      have t1 : ¬ (k : Int) < (k : Int) := by omega
      have hmb : m ≤ 100000 := by rw [hS.out.len]; have := lag_len X Y k k (Nat.le_refl _); have := nb.out; omega
      go_wp2_with (fail)
      refine (reftrim_any a m c (lag X Y k k) (lag_lt k k) hmb _ hS.out).mono ?_
      rintro e w2 ⟨⟨a3, m3, c3, rfl, hr3⟩, hb3⟩
      rw [lag_nf] at hr3
      have hr4 := hidIt hr3
      have hb4 := hidIt (hb.out.trans (hb3.mono hb.out.size))
      clear hr3 hb3
      go_wp2
      go_ret
      exact ⟨⟨_, _, _, rfl, hr4.out⟩, hb4.out⟩
end Go.Proofs.Ytcnjcfmgkkghjaa
