import Derived.Test.YtegfbmekpmdcaaaDoorOr2
import Derived.Test.YtegfbmekpmdcaaaDoorHtr
import Derived.ArgAppend
import Derived.Deep.RegionLaw
namespace Go.Proofs.YtegfbmekpmdcaaaDoor
open Go.RowKit
theorem ofStr_add (a b : ByteArray) : ofStr (a ++ b) = ofStr a ++ ofStr b := by
  unfold ofStr; simp
theorem str_add (xs ys : List Nat) : str xs ++ str ys = str (xs ++ ys) := by
  unfold str
  apply ByteArray.ext
  simp
theorem six_secret (w : World) (fr : Nat × Nat) : Bytes (w.alloc (.cells #[.int .u8 115, .int .u8 101, .int .u8 99, .int .u8 114, .int .u8 101, .int .u8 116] 5 fr)) (some ⟨w.heap.size, 0, none⟩) Ot.txSecret := by
  intro i hi
  have h0 : i < 6 := hi
  refine ⟨_, 0, rfl, ?_⟩
  rw [cell_of_row _ _ _ _ _ _ (heap_alloc_new w _)]
  have : i = 0 ∨ i = 1 ∨ i = 2 ∨ i = 3 ∨ i = 4 ∨ i = 5 := by omega
  rcases this with rfl | rfl | rfl | rfl | rfl | rfl <;> rfl
set_option maxRecDepth 100000 in
set_option maxHeartbeats 1000000 in
theorem refsecret_any (sd : ByteArray) (ks : List Nat) (hk : Hid (ofStr sd = ks)) (hkl : ks.length ≤ 1200) (c : Nat) (hc : c ≤ 999) (w : World) :
    Calls Tryd.prog 25 #[.string sd, .int .i64 (c : Int)] w fun e w' => e = .returned (.string (Ot.sec ks c)) ∧ Below w.heap.size w w' := by
  have kc := fun (w : World) (C : Array Value) (n c : Nat) => Lib.run_convert_bytes_const (P := Tryd.prog) w 66 5 C n c Tryd.underlying66 Tryd.underlying5
  obtain ⟨r, hr⟩ : ∃ r, Hid (Ot.sec ks c = r) := ⟨_, rfl⟩
  rw [hr.out]
  obtain ⟨i0, hi, hz0, hz1, hz2⟩ := info_parts info5
  go_enter Tryd.func25, Tryd.ntmps25
  go_wp2_with (fail)
  have hbA : Below w.heap.size w (w.alloc (.cells #[.int .u8 115, .int .u8 101, .int .u8 99, .int .u8 114, .int .u8 101, .int .u8 116] 5 (6, 7))) := (Below.refl _ _).alloc (Nat.le_refl _) _
  have hy0 := six_secret w (6, 7)
  obtain ⟨w1, hw1⟩ : ∃ w1, Hid (w.alloc (.cells #[.int .u8 115, .int .u8 101, .int .u8 99, .int .u8 114, .int .u8 101, .int .u8 116] 5 (6, 7)) = w1) := ⟨_, rfl⟩
  rw [hw1.out] at hbA hy0
  rw [hw1.out]
  refine (refNumber_any c (by omega) _).mono ?_
  rintro e w2 ⟨a2, c2, rfl, hown2, hb2⟩
  have hy2 := hidIt (hy0.below hb2)
  have H2 := hidIt (below_then hbA hb2)
  have hl10 := (En.enc_len c)
  obtain ⟨es, hes⟩ : ∃ es, Hid (En.enc c = es) := ⟨_, rfl⟩
  rw [hes.out] at hown2 hl10
  rw [hes.out]
  have hes256 : Hid (∀ x ∈ es, x < 256) := by rw [← hes.out]; exact En.enc_all c
  have hl1 := hl10.1
  have hl2 := hl10.2
  obtain ⟨hby2, b2, rfl, _⟩ := own_some hown2 rfl (by omega)
  have hby2' := hidIt hby2
  clear hbA hy0 hb2 hown2 hw1 hl10 kc hby2
  go_wp2_with (at_builtin; refine wpList_append_grows _ rfl _ _ 66 rfl 5 i0 (.int .u8 0) 1 1 Tryd.underlying66 hi hz0 hz1 hz2 rfl (by decide) (some ⟨w.heap.size, 0, none⟩) 6 6 (vals Ot.txSecret) rfl (fun h => by cases h) rfl (fun b hb j u hj => by cases hb; exact bytes_cells hy2.out j u hj) ⟨b2, 0, none⟩ es.length c2 (vals es) rfl (by simp [vals]) (bytes_cells hby2'.out) vals_one (by omega) (by unfold maxLen; omega) (by omega) ?_)
  intro v3 w3 hown3 hg3
  have H3 := hidIt (H2.out.grown hg3 H2.out.size (fun q hq => by cases hq))
  obtain ⟨xs, hxs⟩ : ∃ xs, Hid (Ot.txSecret ++ es = xs) := ⟨_, rfl⟩
  have hxl : Hid (6 + es.length = xs.length) := by show _ = _; rw [← hxs.out, List.length_append]; rfl
  have hx256 : Hid (∀ x ∈ xs, x < 256) := by
    rw [← hxs.out]; intro x hx
    exact (List.mem_append.1 hx).elim ((by decide : ∀ x ∈ Ot.txSecret, x < 256) x) (hes256.out x)
  have hfin : Hid (str (Hm.tag ks xs) = r) := by show _ = _; rw [← hr.out, ← hxs.out, ← hes.out]; rfl
  rw [vals_append, hxs.out, hxl.out] at hown3
  have hn3 := hidIt hown3
  obtain ⟨a3, c3, rfl, _, _⟩ := owned_bytes hown3 rfl
  obtain ⟨hby3, b3, rfl, _⟩ := own_some hn3.out rfl (by have := hxl.out; omega)
  have hby3' := hidIt hby3
  clear hown3 hg3 hby3 hn3
  go_wp2_with (fail)
  refine (reftag_any sd ks hk hkl _ c3 xs hx256.out (by have := hxl.out; omega) _ hby3'.out (fun h => by cases h)).mono ?_
  rintro e w4 ⟨rfl, hb4⟩
  have HB := hidIt (below_then H3.out hb4)
  rw [hfin.out]
  clear hb4
  go_wp2_with (fail)
  go_ret
  exact ⟨rfl, HB.out⟩
theorem number_conv (n : Nat) (hn : n < 18446744073709551616) (w : World) :
    Calls Tryd.prog 50 #[.int .u64 (n : Int)] w fun e w' => (∃ a cap, e = .returned (.slice a (En.enc n).length cap) ∧ Hid (∀ V, Below w'.heap.size w' V → (convert 66 9 (.slice a (En.enc n).length cap)).run Tryd.prog V = .ok (.string (str (En.enc n))) V)) ∧ Below w.heap.size w w' := by
  refine (refNumber_any n hn w).mono ?_
  rintro e w' ⟨a, cap, rfl, hown, hb⟩
  obtain ⟨a', c', hv, hby, _⟩ := owned_bytes hown rfl
  cases hv
  exact ⟨⟨a, cap, rfl, fun V hV => conv_str V _ _ _ _ rfl (hby.below hV)⟩, hb⟩
def Ot.inp (c j : Nat) (x : ByteArray) : List Nat := (Ot.txChain ++ En.enc c) ++ En.enc j ++ ofStr x
theorem Ot.stp_inp (c j : Nat) (x : ByteArray) : Ot.stp c j x = str (Sh.sum (Ot.inp c j x)) := rfl
set_option maxRecDepth 100000 in
set_option maxHeartbeats 1000000 in
theorem refinput_any (c j : Nat) (hc : c ≤ 999) (hj : j ≤ 999) (x : ByteArray) (hx : x.size ≤ 1000) (w : World) :
    Calls Tryd.prog 52 #[.int .i64 (c : Int), .int .i64 (j : Int), .string x] w fun e w' => e = .returned (.string (str (Ot.inp c j x))) ∧ Below w.heap.size w w' := by
  have d1 : Hid (∀ W, Calls Tryd.prog 50 #[.int .u64 (c : Int)] W fun e w' => (∃ a cap, e = .returned (.slice a (En.enc c).length cap) ∧ Hid (∀ V, Below w'.heap.size w' V → (convert 66 9 (.slice a (En.enc c).length cap)).run Tryd.prog V = .ok (.string (str (En.enc c))) V)) ∧ Below W.heap.size W w') := fun W => number_conv c (by omega) W
  have d2 : Hid (∀ W, Calls Tryd.prog 50 #[.int .u64 (j : Int)] W fun e w' => (∃ a cap, e = .returned (.slice a (En.enc j).length cap) ∧ Hid (∀ V, Below w'.heap.size w' V → (convert 66 9 (.slice a (En.enc j).length cap)).run Tryd.prog V = .ok (.string (str (En.enc j))) V)) ∧ Below W.heap.size W w') := fun W => number_conv j (by omega) W
  obtain ⟨n1, hn1⟩ : ∃ n, Hid ((En.enc c).length = n) := ⟨_, rfl⟩
  obtain ⟨n2, hn2⟩ : ∃ n, Hid ((En.enc j).length = n) := ⟨_, rfl⟩
  obtain ⟨s1, hs1⟩ : ∃ s, Hid (str (En.enc c) = s) := ⟨_, rfl⟩
  obtain ⟨s2, hs2⟩ : ∃ s, Hid (str (En.enc j) = s) := ⟨_, rfl⟩
  have hl1 := (En.enc_len c).2
  have hl2 := (En.enc_len j).2
  have z1 : s1.size ≤ 10 := by rw [← hs1.out, str_size]; exact hl1
  have z2 : s2.size ≤ 10 := by rw [← hs2.out, str_size]; exact hl2
  obtain ⟨t1, ht1⟩ : ∃ t : ByteArray, Hid ((⟨#[99, 104, 97, 105, 110]⟩ : ByteArray) ++ s1 = t) := ⟨_, rfl⟩
  obtain ⟨t2, ht2⟩ : ∃ t : ByteArray, Hid (t1 ++ s2 = t) := ⟨_, rfl⟩
  obtain ⟨t3, ht3⟩ : ∃ t : ByteArray, Hid (t2 ++ x = t) := ⟨_, rfl⟩
  have y1 : t1.size ≤ 15 := by rw [← ht1.out, ByteArray.size_append]; show 5 + _ ≤ _; omega
  have y2 : t2.size ≤ 25 := by rw [← ht2.out, ByteArray.size_append]; omega
  have hfin : Hid (t3 = str (Ot.inp c j x)) := by
    show _ = _
    rw [← ht3.out, ← ht2.out, ← ht1.out, ← hs1.out, ← hs2.out]
    unfold Ot.inp
    rw [← str_add, ← str_add, ← str_add, str_ofStr]; rfl
  rw [← hfin.out]
  have f1 := ht1.out
  have f2 := ht2.out
  have f3 := ht3.out
  have g1 : ¬ (9223372036854775807 : Nat) < 5 + s1.size := by omega
  have g2 : ¬ (9223372036854775807 : Nat) < t1.size + s2.size := by omega
  have g3 : ¬ (9223372036854775807 : Nat) < t2.size + x.size := by omega
  have hB0 := Below.refl w.heap.size w
  have kw1 : IntKind.u64.wrap (c : Int) = (c : Int) := by rw [IntKind.wrap_u64]; omega
  have kw2 : IntKind.u64.wrap (j : Int) = (j : Int) := by rw [IntKind.wrap_u64]; omega
  rw [hn1.out, hs1.out] at d1
  rw [hn2.out, hs2.out] at d2
  clear hfin ht1 ht2 ht3
  go_enter Tryd.func52, Tryd.ntmps52
  go_wp2_with (fail)
  go_region_law (first
    | (go_simp; go_at_call 50; (with_reducible refine Calls.mono (d1.out _) ?_); rintro e w7 ⟨⟨a7, c7, rfl, kv7⟩, hb7⟩; have kv11 := kv7.out _ (Below.refl _ _); have kv12 := kv8.out _ hb7)
    | (go_simp; go_at_call 50; (with_reducible refine Calls.mono (d1.out _) ?_); rintro e w7 ⟨⟨a7, c7, rfl, kv7⟩, hb7⟩; have kv11 := kv7.out _ (Below.refl _ _))
    | (go_simp; go_at_call 50; (with_reducible refine Calls.mono (d2.out _) ?_); rintro e w8 ⟨⟨a8, c8, rfl, kv8⟩, hb8⟩; have kv10 := kv8.out _ (Below.refl _ _); have kv9 := kv7.out _ hb8)
    | (go_simp; go_at_call 50; (with_reducible refine Calls.mono (d2.out _) ?_); rintro e w8 ⟨⟨a8, c8, rfl, kv8⟩, hb8⟩; have kv10 := kv8.out _ (Below.refl _ _)))
  all_goals
    go_wp2_with (fail)
    go_ret
    first
      | exact ⟨rfl, below_then (below_then hB0.drew hb7) hb8⟩
      | exact ⟨rfl, below_then (below_then hB0.drew hb8) hb7⟩
set_option maxRecDepth 100000 in
set_option maxHeartbeats 1000000 in
theorem refchain_any (c f t : Nat) (hc : c ≤ 999) (hft : f ≤ t) (ht : t ≤ 255) (x : ByteArray) (hx : x.size = 32) (w : World) :
    Calls Tryd.prog 26 #[.int .i64 (c : Int), .int .i64 (f : Int), .int .i64 (t : Int), .string x] w fun e w' => e = .returned (.string (Ot.chn c f (t - f) x)) ∧ Below w.heap.size w w' := by
  obtain ⟨n, hn⟩ : ∃ n, Hid (t - f = n) := ⟨_, rfl⟩
  have hxh := hidIt hx
  rw [hn.out]
  clear hx
  go_enter Tryd.func26, Tryd.ntmps26
  go_wp2_with (fail)
  go_loopw [9, 3] (fun i v wr => ∃ k : Nat, i = .int .i64 ((f + k : Nat) : Int) ∧ k ≤ n ∧ v = .string (Ot.chn c f k x) ∧ Below w.heap.size w wr) (fun i _ _ => t - (intOf i).toNat)
  case atStart => exact ⟨0, rfl, by omega, rfl, Below.refl _ _⟩
  case round =>
    obtain ⟨k, rfl, hk, rfl, hb⟩ := hrel
    obtain ⟨j, hj⟩ : ∃ j, Hid (f + k = j) := ⟨_, rfl⟩
    have hjt : j ≤ t := by have := hj.out; have := hn.out; omega
    obtain ⟨y, hy⟩ : ∃ y, Hid (Ot.chn c f k x = y) := ⟨_, rfl⟩
    have hy32 : Hid (y.size = 32) := by show _ = _; rw [← hy.out]; exact Ot.chn_size _ _ _ _ hxh.out
    rw [hj.out, hy.out]
    have hb2 := hidIt hb
    clear hb
    by_cases hlt : j < t
    · obtain ⟨us, hus⟩ : ∃ us, Hid (Ot.inp c j y = us) := ⟨_, rfl⟩
      obtain ⟨z, hz⟩ : ∃ z, Hid (str us = z) := ⟨_, rfl⟩
      obtain ⟨y', hy'⟩ : ∃ y', Hid (Ot.chn c f (k + 1) x = y') := ⟨_, rfl⟩
      have hstep : Hid (str (Sh.sum us) = y') := by show _ = _; rw [← hus.out, ← Ot.stp_inp, ← hy'.out, ← hy.out, ← hj.out]; rfl
      have hu256 : Hid (∀ x ∈ us, x < 256) := by
        rw [← hus.out]; intro x hx
        unfold Ot.inp at hx
        rcases List.mem_append.1 hx with h | h
        · exact (List.mem_append.1 h).elim (tx_lt (by decide) c x) (En.enc_all j x)
        · exact ofStr_lt _ x h
      have hul : us.length ≤ 60 := by
        rw [← hus.out]; unfold Ot.inp
        have h1 := (En.enc_len c).2
        have h2 := (En.enc_len j).2
        rw [List.length_append, List.length_append, List.length_append, ofStr_len, hy32.out]
        have : Ot.txChain.length = 5 := rfl
        omega
      have hof : Hid (ofStr z = us) := by show _ = _; rw [← hz.out, ofStr_str _ hu256.out]
      have dI : Hid (∀ W, Calls Tryd.prog 52 #[.int .i64 (c : Int), .int .i64 (j : Int), .string y] W fun e w' => e = .returned (.string z) ∧ Below W.heap.size W w') := fun W => by
        have := refinput_any c j hc (by omega) y (by rw [hy32.out]; omega) W
        rwa [hus.out, hz.out] at this
      have hjk : Hid (f + (k + 1) = j + 1) := by have := hj.out; show _ = _; omega
      have hkn : k + 1 ≤ n := by have := hn.out; have := hj.out; omega
      clear hus hz hy hj
      go_wp2_with (fail)
      refine (dI.out _).mono ?_
      rintro e w5 ⟨rfl, hb5⟩
      obtain ⟨cp, w6, hcv, hby, hb6, hc6, hlt6⟩ := conv_to z w5
      rw [hof.out] at hby
      have hzl : Hid (z.size = us.length) := by show _ = _; rw [← hof.out, ofStr_len]
      have H6 := hidIt (below_then (below_then hb2.out hb5) hb6)
      have hby' := hidIt hby
      clear hb5 hb6 hby hlt6 hc6
      go_wp2_with (fail)
      refine (refsum_at' _ z.size cp us hzl.out hu256.out (by omega) _ hby'.out (fun h => by cases h)).mono ?_
      rintro e w7 ⟨rfl, hb7⟩
      have H7 := hidIt (below_then H6.out hb7)
      rw [hstep.out]
      clear hb7 hcv
      go_wp2_with (fail)
      go_roundw
      case rel => exact ⟨k + 1, by rw [hjk.out]; go_num, hkn, by rw [hy'.out], H7.out⟩
      case measure => simp [intOf]; omega
    · have hkn : Hid (k = n) := by have := hj.out; have := hn.out; show _ = _; omega
      have hfin : Hid (y = Ot.chn c f n x) := by show _ = _; rw [← hy.out, hkn.out]
      clear hy hj hkn hk
      go_wp2_with (fail)
      go_ret
      exact ⟨by rw [← hfin.out]; rfl, hb2.out⟩
end Go.Proofs.YtegfbmekpmdcaaaDoor
