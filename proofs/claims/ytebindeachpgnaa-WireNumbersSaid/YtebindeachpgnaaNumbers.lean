import Derived.Test.YtebindeachpgnaaRow
namespace Go.Proofs.Ytebindeachpgnaa
open Go.RowKit
set_option maxHeartbeats 1000000 in
set_option maxRecDepth 100000 in
theorem numbers_walk (a : Option Addr) (len cap : Nat) (bs : List Nat) (a1 a2 : Int) (w : World) (hrow : RowB w a len cap bs) (w1 : (Lit.int .u64 a1).wf = true) (w2 : (Lit.int .i64 a2).wf = true) :
    Calls Try.prog 9 #[.slice a len cap, .int .u64 a1, .int .i64 a2] w fun e w' => e = .returned (.bool true) ∧ Below w.heap.size w w' := by
  obtain ⟨n, hn, rfl⟩ := nat_u64 w1
  have hk := bounds_i64 w2
  have hl10 := (En.enc_len n).2
  have hl1 := (En.enc_len n).1
  have h := hrow.bytes
  have hnil := hrow.nil
  have hl := hrow.len
  subst hl
  clear w1 w2 hrow
  by_cases hbig : 1000 < bs.length
  · have hz : (1000 : Int) < (bs.length : Int) := by omega
    clear hbig
    go_enter Try.func9, Try.ntmps9
    go_wp2_with (fail)
    refine (awake_any _).mono ?_
    rintro e w2 ⟨rfl, hb2⟩
    go_wp2_with (fail)
    go_ret
    exact ⟨rfl, hb2⟩
  · have hz : ¬ (1000 : Int) < (bs.length : Int) := by omega
    go_enter Try.func9, Try.ntmps9
    go_wp2_with (fail)
    refine (awake_any _).mono ?_
    rintro e w2 ⟨rfl, hb2⟩
    have hs2 := hb2.size
    have hown : (w2.alloc (.cells #[] 5)).ownsRow w.heap.size 5 1 (.slice (some ⟨w2.heap.size, 0, none⟩) 0 0) 0 [] := World.ownsRow_made w2 #[] 0 hs2 (by unfold maxLen; omega) rfl
    have hb3 := hb2.alloc hs2 (.cells #[] 5)
    have h3 := h.below hb3
    go_wp2_with (at_builtin; refine wpList_append_bytes _ rfl _ _ rfl w.heap.size _ 0 [] rfl hown a _ cap bs rfl rfl h3 hnil (by omega) hb3.size ?_)
    intro v4 w4 hown4 hg4
    have hb4 : Below w.heap.size w w4 := hb3.grown hg4 hb3.size (fun q hq => (hown.lt q hq).1)
    have hown5 : w4.ownsRow w.heap.size 5 1 v4 bs.length (vals bs) := by simpa using hown4
    clear hown hown4 hg4 hb3 h3
    go_wp2_with (fail)
    refine (refNumber_any n hn _).mono ?_
    rintro e w5 ⟨a5, cap5, rfl, ho5, hb5⟩
    obtain ⟨a5', cap5', hv, hby5, _⟩ := owned_bytes ho5 rfl
    simp only [Value.slice.injEq, true_and] at hv
    obtain ⟨rfl, rfl⟩ := hv
    have hn5 : a5 = none → cap5 = 0 ∧ En.enc n = [] := fun e => by
      obtain ⟨b, off, h2, _⟩ := hby5 0 (by omega)
      rw [e] at h2; cases h2
    have hown6 := hown5.kept (g_below (r := none) hb5) (by cases v4.ownBlock with | none => exact .inl rfl | some q => exact .inr (by simp))
    have hb6 : Below w.heap.size w w5 := below_then hb4 hb5
    have E5 := hidIt ho5
    clear hown5 hb5 ho5
    go_wp2_with (at_builtin; refine wpList_append_bytes _ rfl _ _ rfl w.heap.size _ bs.length (vals bs) rfl hown6 a5 _ cap5 (En.enc n) rfl rfl hby5 hn5 (by omega) hb6.size ?_)
    intro v7 w7 hown7 hg7
    have hb7 : Below w.heap.size w w7 := hb6.grown hg7 hb6.size (fun q hq => (hown6.lt q hq).1)
    have hown8 := owned_append hown7 (m := (bs ++ En.enc n).length) (by simp)
    clear hown6 hown7 hg7 hb6 hby5 E5
    have hA := appendUint_any a cap n bs hn (by omega) w7 (h.below hb7) hnil
    have hzl : (bs ++ En.enc n).length ≤ 1010 := by simp; omega
    generalize bs ++ En.enc n = zs at *
    obtain ⟨a8, cap8, rfl, hby8, _⟩ := owned_bytes hown8 rfl
    clear hown8
    go_wp2_with (fail)
    refine hA.mono ?_
    rintro e w9 ⟨a9, cap9, rfl, ho9, hb9⟩
    obtain ⟨a9', cap9', hv, hby9, _⟩ := owned_bytes ho9 rfl
    simp only [Value.slice.injEq, true_and] at hv
    obtain ⟨rfl, rfl⟩ := hv
    have hb10 : Below w.heap.size w w9 := below_then hb7 hb9
    have hby10 := hby8.below hb9
    clear hA ho9 hb9 hby8 hb7
    go_wp2_with (fail)
    refine (same_any a9 a8 cap9 cap8 zs zs true (by simp) _ hby9 hby10 (by omega)).mono ?_
    rintro e w11 ⟨rfl, m, rfl⟩
    have hb11 := below_drewN hb10 m
    clear hb10 hby9 hby10
    generalize w9.drewN m = w11 at *
    go_wp2_with (fail)
    refine (uintSize_any n hn _).mono ?_
    rintro e w' ⟨rfl, rfl⟩
    go_wp2_with (fail)
    refine (refNumber_any n hn _).mono ?_
    rintro e w12 ⟨a12, cap12, rfl, _, hb12⟩
    have hb13 : Below w.heap.size w w12 := below_then hb11 hb12
    clear hb11 hb12
    go_wp2_with (fail)
    refine (zigzag_any a2 hk.1 hk.2 _).mono ?_
    rintro e w' ⟨rfl, rfl⟩
    go_wp2_with (fail)
    refine (refZigzag_any a2 hk.1 hk.2 _).mono ?_
    rintro e w' ⟨rfl, rfl⟩
    go_wp2_with (fail)
    refine (unzigzag_any n hn _).mono ?_
    rintro e w' ⟨rfl, rfl⟩
    go_wp2_with (fail)
    refine (refUnzigzag_any n hn _).mono ?_
    rintro e w' ⟨rfl, rfl⟩
    go_wp2_with (fail)
    go_ret
    exact ⟨rfl, hb13⟩
end Go.Proofs.Ytebindeachpgnaa
