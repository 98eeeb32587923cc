import Derived.Test.YtebindeachpgnaaLimit1
namespace Go.Proofs.Ytebindeachpgnaa
open Go.RowKit
/-- a slice of ints as it comes in -/
def RowI (w : World) (a : Option Addr) (len : Nat) (zs : List Int) : Prop := ∀ i, i < len → ∃ b off, a = some ⟨b, off, none⟩ ∧ w.cell? ⟨b, off + i, none⟩ = some (.int .i64 (zs.getD i 0))
theorem RowI.below {w wr : World} {a : Option Addr} {len : Nat} {zs : List Int} (h : RowI w a len zs) (hb : Below w.heap.size w wr) : RowI wr a len zs := by
  intro i hi
  obtain ⟨b, off, h2, h3⟩ := h i hi
  exact ⟨b, off, h2, (hb.cell (p := ⟨b, off + i, none⟩) (bytes_lt h3)).trans h3⟩
theorem made_zero2 (n : Nat) : (madeCells #[Value.int .u8 0] n).toList = vals (List.replicate n 0) := by
  have := made_zero n
  rw [Nat.mul_one] at this
  exact this
theorem enc_addr {n total : Nat} : (total : Int) + (n : Int) + ((En.enc n).length : Int) = ((total + n + (En.enc n).length : Nat) : Int) := by omega
set_option maxHeartbeats 4000000 in
set_option maxRecDepth 100000 in
theorem limit_walk (a0 : Option Addr) (len0 cap0 : Nat) (zs : List Int) (a1 : Int) (w : World) (hrow : RowI w a0 len0 zs) :
    Calls Try.prog 4 #[.slice a0 len0 cap0, .int .i64 a1] w fun e w' => e = .returned (.bool true) ∧ Below w.heap.size w w' := by
  obtain ⟨i0, hi, hz0, hz1, hz2⟩ := info_parts info5
  by_cases hbig : 20 < len0
  · have hz : (20 : Int) < (len0 : Int) := by omega
    clear hbig
    go_enter Try.func4, Try.ntmps4
    go_wp2_with (fail)
    refine (awake_any _).mono ?_
    rintro e w2 ⟨rfl, hb2⟩
    go_wp2_with (fail)
    go_ret
    exact ⟨rfl, hb2⟩
  · have hz : ¬ (20 : Int) < (len0 : Int) := by omega
    go_enter Try.func4, Try.ntmps4
    go_wp2_with (fail)
    refine (awake_any _).mono ?_
    rintro e w2 ⟨rfl, hb2⟩
    go_wp2_with (fail)
    refine (newWriter_any _).mono ?_
    rintro e w3 ⟨rfl, hW3, hb3⟩
    have hBw := hb2.size
    have hb03 : Below w.heap.size w w3 := below_then hb2 hb3
    generalize w2.heap.size = B at *
    clear hb2 hb3
    go_wp2_with (fail)
    go_loopw [6, 7, 8] (fun t f i wr => ∃ (k total : Nat) (fl : Bool), k ≤ len0 ∧ i = .int .i64 k ∧ t = .int .i64 total ∧ f = .bool fl ∧ total ≤ k * 100010 ∧ Hid (WS wr B fl total) ∧ Hid (Below w.heap.size w wr)) (fun _ _ i _ => len0 - (intOf i).toNat)
    case atStart => exact ⟨0, 0, false, by omega, rfl, rfl, rfl, by omega, hidIt ⟨[], hW3, fun _ => rfl⟩, hidIt hb03⟩
    case round =>
      obtain ⟨k, total, fl, hk, rfl, rfl, rfl, ht, hws, hbl⟩ := hrel
      by_cases hkl : k < len0
      · obtain ⟨b, off, rfl, hc⟩ := hrow.below hbl.out k hkl
        have hzk : (k : Int) < (len0 : Int) := by omega
        generalize zs.getD k 0 = z at *
        by_cases hneg : z < 0
        · go_wp2_with (fail)
          go_ret
          exact ⟨rfl, hbl.out⟩
        · by_cases hlarge : 100000 < z
          · go_wp2_with (fail)
            go_ret
            exact ⟨rfl, hbl.out⟩
          · obtain ⟨n, rfl⟩ : ∃ n : Nat, z = n := ⟨z.toNat, by omega⟩
            have hn : n ≤ 100000 := by omega
            have hwr : IntKind.u64.wrap (n : Int) = (n : Int) := by rw [IntKind.wrap_u64]; omega
            have hl10 := (En.enc_len n).2
            have hwl : wr.heap.size ≤ wr.heap.size := Nat.le_refl _
            by_cases hk1 : a1 = (k : Int)
            · subst hk1
              go_wp2_with (fail)
              refine (wcountS B total fl _ hws.out).mono ?_
              rintro e w4 ⟨rfl, hw4, hb4⟩
              have hbl4 : Below w.heap.size w w4 := hbl.out.trans (hb4.mono hBw)
              clear hws hbl hb4
              go_wp2_with (refine wpList_make_full _ rfl _ _ 25 rfl w4.heap.size 5 i0 (.int .u8 0) 1 Try.underlying25 hi hz0 hz1 .i64 .i64 _ _ n rfl rfl rfl rfl ?c1 ?c2 (Nat.le_refl _) ?_)
              case c1 => first | omega | (rw [hz2]; omega)
              case c2 => unfold maxLen; omega
              intro w5 hown5 hg5
              rw [made_zero2] at hown5
              have hgl := (hown5.lt w4.heap.size rfl).2
              obtain ⟨a5', cap5', hv, hby5, _⟩ := owned_bytes hown5 (by simp)
              simp only [List.length_replicate, Value.slice.injEq, true_and] at hv
              obtain ⟨rfl, rfl⟩ := hv
              have hb5 : Below w4.heap.size w4 w5 := (Below.refl _ _).grown hg5 (Nat.le_refl _) (fun q hq => by cases hq)
              have hbl5 : Below w.heap.size w w5 := below_then hbl4 hb5
              have hc5 := hidIt (wbytesS B total n w4.heap.size true hn (by omega) w4 w5 hw4 hb5 rfl hgl hby5)
              clear hown5 hg5 hby5 hb5
              go_wp2_with (fail)
              refine hc5.out.mono ?_
              rintro e w6 ⟨rfl, hw6, hb6⟩
              have hbl6 : Below w.heap.size w w6 := hbl5.trans (hb6.mono hBw)
              clear hc5 hb6 hbl5
              go_wp2_with (fail)
              refine (refNumber_any n (by omega) _).mono ?_
              rintro e w7 ⟨a7, cap7, rfl, _, hb7⟩
              have hbl7 : Below w.heap.size w w7 := below_then hbl6 hb7
              have hw7 := hw6.below hb7
              clear hb7 hw6 hbl6
              generalize hel : (En.enc n).length = el at *
              go_wp2_with (fail)
              go_roundw
              case rel => exact ⟨k + 1, total + n + el, true, by omega, by go_num, by go_num, rfl, by omega, hidIt hw7, hidIt hbl7⟩
              case measure => simp [intOf]; omega
            · have hk2 : ¬ (k : Int) = a1 := fun e => hk1 e.symm
              go_wp2_with (refine wpList_make_full _ rfl _ _ 25 rfl wr.heap.size 5 i0 (.int .u8 0) 1 Try.underlying25 hi hz0 hz1 .i64 .i64 _ _ n rfl rfl rfl rfl ?c1 ?c2 (Nat.le_refl _) ?_)
              case c1 => first | omega | (rw [hz2]; omega)
              case c2 => unfold maxLen; omega
              intro w5 hown5 hg5
              rw [made_zero2] at hown5
              have hgl := (hown5.lt wr.heap.size rfl).2
              obtain ⟨a5', cap5', hv, hby5, _⟩ := owned_bytes hown5 (by simp)
              simp only [List.length_replicate, Value.slice.injEq, true_and] at hv
              obtain ⟨rfl, rfl⟩ := hv
              have hb5 : Below wr.heap.size wr w5 := (Below.refl _ _).grown hg5 (Nat.le_refl _) (fun q hq => by cases hq)
              have hbl5 : Below w.heap.size w w5 := below_then hbl.out hb5
              have hc5 := hidIt (wbytesS B total n wr.heap.size fl hn (by omega) wr w5 hws.out hb5 rfl hgl hby5)
              clear hown5 hg5 hby5 hb5
              go_wp2_with (fail)
              refine hc5.out.mono ?_
              rintro e w6 ⟨rfl, hw6, hb6⟩
              have hbl6 : Below w.heap.size w w6 := hbl5.trans (hb6.mono hBw)
              clear hc5 hb6 hbl5
              go_wp2_with (fail)
              refine (refNumber_any n (by omega) _).mono ?_
              rintro e w7 ⟨a7, cap7, rfl, _, hb7⟩
              have hbl7 : Below w.heap.size w w7 := below_then hbl6 hb7
              have hw7 := hw6.below hb7
              clear hb7 hw6 hbl6
              generalize hel : (En.enc n).length = el at *
              go_wp2_with (fail)
              go_roundw
              case rel => exact ⟨k + 1, total + n + el, fl, by omega, by go_num, by go_num, rfl, by omega, hidIt hw7, hidIt hbl7⟩
              case measure => simp [intOf]; omega
      · obtain rfl : k = len0 := by omega
        have hws2 := hws.out
        clear hws
        obtain ⟨zz, hW, hzz⟩ := hws2
        cases fl
        · have hzt := hzz rfl
          by_cases hlg : 1048576 < total
          · have hq : (1048576 : Int) < (total : Int) := by omega
            go_wp2_with (fail)
            refine (done_large B zz (by omega) _ hW).mono ?_
            rintro e w4 ⟨rfl, rfl⟩
            go_wp2_with (fail)
            go_ret
            exact ⟨rfl, hbl.out⟩
          · have hq : ¬ (1048576 : Int) < (total : Int) := by omega
            subst hzt
            go_wp2_with (fail)
            refine (done_ok B zz (by omega) _ hW).mono ?_
            rintro e w4 ⟨a4, cap4, rfl, _, hb4⟩
            go_wp2_with (fail)
            go_ret
            exact ⟨rfl, below_then hbl.out hb4⟩
        · go_wp2_with (fail)
          refine (done_err B 1 zz (by decide) _ hW).mono ?_
          rintro e w4 ⟨rfl, m, rfl⟩
          go_wp2_with (fail)
          go_ret
          exact ⟨rfl, below_drewN hbl.out m⟩
end Go.Proofs.Ytebindeachpgnaa
