import Derived.Test.YtgkomejckbccdaaDoorOf
import Derived.Test.YtgkomejckbccdaaDoorLaw6
namespace Go.Proofs.YtgkomejckbccdaaDoor
open Go.RowKit
set_option maxRecDepth 100000 in
set_option maxHeartbeats 1000000 in
theorem mblocks_walk (a0 : Option Addr) (len0 cap0 : Nat) (xs : List Nat) (size b : Int) (w : World) (hL : Laid w) (h0 : RowB w a0 len0 cap0 xs) (hs : (Lit.int .i64 size).wf = true) (hb : (Lit.int .i64 b).wf = true) :
    Calls Tryd.prog 13 #[.slice a0 len0 cap0, .int .i64 size, .int .i64 b] w fun e w' => e = .returned (.bool true) ∧ Below w.heap.size w w' := by
  have hX := hidIt h0
  have bs := hidIt (bounds_i64 hs)
  have bb := hidIt (bounds_i64 hb)
  clear h0 hs hb
  obtain ⟨q20, hq20⟩ : ∃ q, Hid (len0 / 20 = q) := ⟨_, rfl⟩
  have d1 : (len0 : Int).tdiv 20 = (q20 : Int) := by rw [← hq20.out]; simp
  have hql : Hid (q20 ≤ len0) := by show _ ≤ _; rw [← hq20.out]; exact Nat.div_le_self _ _
  go_enter Tryd.func13, Tryd.ntmps13
  go_wp2_with (fail)
  refine (awake9_any _ hL).mono ?_
  rintro e w1 ⟨rfl, hb1⟩
  have B1 := hidIt hb1
  have L1 := hL.below hb1 hL.two
  clear hb1
  by_cases hbig : 300 < len0
  · have t1 : (300 : Int) < (len0 : Int) := by omega
    go_wp2_with (fail)
    refine (awake9_any _ L1).mono ?_
    rintro e w2 ⟨rfl, hb2⟩
    go_wp2_with (fail)
    go_ret
    exact ⟨rfl, below_then B1.out hb2⟩
  have t1 : ¬ (300 : Int) < (len0 : Int) := by omega
  have hlen : Hid (len0 ≤ 300) := by show _ ≤ _; omega
  have d2 : IntKind.i64.wrap (q20 : Int) = (q20 : Int) := by have := hql.out; exact IntWalk.i64_in _ (by omega)
  clear hbig
  by_cases hs1 : size < 1
  · have t2 : ¬ (0 : Int) < size := by omega
    have hs2 := hidIt hs1
    obtain ⟨em, hem⟩ : ∃ em, Hid (ByteArray.empty = em) := ⟨_, rfl⟩
    have q1 : (em.toList == em.toList) = true := by simp
    clear hs1
    go_wp2_with (fail)
    refine (blocks_bad1 a0 len0 cap0 size hs2.out _).mono ?_
    rintro e w2 ⟨rfl, hb2⟩
    have B2 := hidIt (below_then B1.out hb2)
    clear hb2
    go_wp2_with (fail)
    refine (refblocks_bad1 a0 len0 cap0 size hs2.out _).mono ?_
    rintro e w3 ⟨rfl, hb3⟩
    have B3 := hidIt (below_then B2.out hb3)
    clear hb3
    go_wp2_with (fail)
    refine (of_bad a0 len0 cap0 size hs2.out _).mono ?_
    rintro e w4 ⟨rfl, hb4⟩
    have B4 := hidIt (below_then B3.out hb4)
    clear hb4
    rw [hem.out]
    go_wp2_with (fail)
    refine (refof_bad a0 len0 cap0 size hs2.out _).mono ?_
    rintro e w5 ⟨rfl, hb5⟩
    have B5 := hidIt (below_then B4.out hb5)
    clear hb5
    rw [hem.out]
    go_wp2_with (fail)
    refine (show_bad a0 len0 cap0 size b hs2.out _).mono ?_
    rintro e w6 ⟨rfl, hb6⟩
    have B6 := hidIt (below_then B5.out hb6)
    clear hb6
    go_wp2_with (fail)
    refine (refshow_bad a0 len0 cap0 size b hs2.out _).mono ?_
    rintro e w7 ⟨rfl, hb7⟩
    have B7 := hidIt (below_then B6.out hb7)
    clear hb7
    go_wp2_with (fail)
    refine (sameS_eq none none 0 0 0 [] (by decide) _ (rds_none _) (rds_none _)).mono ?_
    rintro e w8 ⟨rfl, hb8⟩
    have B8 := hidIt (below_then B7.out hb8)
    clear hb8
    obtain ⟨es, hes⟩ : ∃ es, Hid (str [] = es) := ⟨_, rfl⟩
    have q2 : (es.toList == es.toList) = true := by simp
    have cs := conv_str w8 none 0 0 [] rfl (bytes_nil _ _)
    rw [hes.out] at cs
    go_wp2_with (fail)
    refine (sameS_eq none none 0 0 0 [] (by decide) _ (rds_none _) (rds_none _)).mono ?_
    rintro e w9 ⟨rfl, hb9⟩
    have B9 := hidIt (below_then B8.out hb9)
    clear hb9
    go_wp2_with (fail)
    go_ret
    exact ⟨rfl, B9.out⟩
  have t2 : (0 : Int) < size := by omega
  by_cases hmany : size ≤ (q20 : Int)
  · clear hs1
    go_wp2_with (fail)
    refine (awake9_any _ L1).mono ?_
    rintro e w2 ⟨rfl, hb2⟩
    go_wp2_with (fail)
    go_ret
    exact ⟨rfl, below_then B1.out hb2⟩
  have t3 : ¬ size ≤ (q20 : Int) := hmany
  obtain ⟨sz, rfl⟩ := Int.eq_ofNat_of_zero_le (show 0 ≤ size by omega)
  have hz1 : Hid (1 ≤ sz) := by show _ ≤ _; omega
  have hz2 : Hid (sz < 9223372036854775808) := by show _ < _; have := bs.out; omega
  obtain ⟨L, hl⟩ : ∃ L, Hid (blkLeaves xs sz (List.range (rounds len0 sz)) = L) := ⟨_, rfl⟩
  obtain ⟨r, hr⟩ : ∃ r, Hid (rounds len0 sz = r) := ⟨_, rfl⟩
  have hll : Hid (r = L.length) := by show _ = _; rw [← hl.out, leaves_len, hr.out]
  have hrl : Hid (r ≤ 301) := by
    show _ ≤ _
    rw [← hr.out]
    unfold rounds
    have := hlen.out
    split
    · omega
    · have := Nat.div_le_self (len0 - 1) sz; omega
  obtain ⟨v, hv⟩ : ∃ v, Hid (Mk.root (blkLeaves xs sz (List.range (rounds len0 sz))) = v) := ⟨_, rfl⟩
  have q1 : (v.toList == v.toList) = true := by simp
  clear hs1 hmany
  go_wp2_with (fail)
  have c1 := blocks_good a0 len0 cap0 sz xs hz1.out hz2.out (by have := hlen.out; omega) w1 L1 (hX.out.below B1.out)
  rw [hl.out, hr.out] at c1
  refine c1.mono ?_
  rintro e w2 ⟨⟨v1, rfl, hown⟩, hb2⟩
  obtain ⟨al, cl, rfl, hR⟩ := rds_of hown hll.out
  have B2 := hidIt (below_then B1.out hb2)
  have hR2 := hidIt hR
  clear hb2 hown hR c1
  go_wp2_with (fail)
  have c2 := refblocks_good a0 len0 cap0 sz xs hz1.out hz2.out (by have := hlen.out; omega) w2 (hX.out.below B2.out)
  rw [hl.out, hr.out] at c2
  refine c2.mono ?_
  rintro e w3 ⟨⟨v2, rfl, hown⟩, hb3⟩
  obtain ⟨am, cm, rfl, hR⟩ := rds_of hown hll.out
  have B3 := hidIt (below_then B2.out hb3)
  have hR3 := hidIt (hR2.out.below hb3)
  have hS3 := hidIt hR
  clear hb3 hown hR c2 hR2
  go_wp2_with (fail)
  refine (of_good a0 len0 cap0 sz xs v hv hz1.out hz2.out (by have := hlen.out; omega) _ (hL.below B3.out hL.two) (hX.out.below B3.out)).mono ?_
  rintro e w4 ⟨rfl, hb4⟩
  have B4 := hidIt (below_then B3.out hb4)
  have hR4 := hidIt (hR3.out.below hb4)
  have hS4 := hidIt (hS3.out.below hb4)
  clear hb4 hR3 hS3
  go_wp2_with (fail)
  refine (refof_good a0 len0 cap0 sz xs v hv hz1.out hz2.out (by have := hlen.out; omega) _ (hL.below B4.out hL.two) (hX.out.below B4.out)).mono ?_
  rintro e w5 ⟨rfl, hb5⟩
  have B5 := hidIt (below_then B4.out hb5)
  have hR5 := hidIt (hR4.out.below hb5)
  have hS5 := hidIt (hS4.out.below hb5)
  clear hb5 hR4 hS4
  by_cases hbr : b < 0 ∨ (rounds len0 sz : Int) ≤ b
  · have hbr2 := hidIt hbr
    clear hbr
    go_wp2_with (fail)
    refine (show_bad2 a0 len0 cap0 sz b xs hbr2.out hz1.out hz2.out (by have := hlen.out; omega) _ (hL.below B5.out hL.two) (hX.out.below B5.out)).mono ?_
    rintro e w6 ⟨rfl, hb6⟩
    have B6 := hidIt (below_then B5.out hb6)
    have hR6 := hidIt (hR5.out.below hb6)
    have hS6 := hidIt (hS5.out.below hb6)
    clear hb6 hR5 hS5
    go_wp2_with (fail)
    refine (refshow_bad2 a0 len0 cap0 sz b xs hbr2.out hz1.out hz2.out (by have := hlen.out; omega) _ (hL.below B6.out hL.two) (hX.out.below B6.out)).mono ?_
    rintro e w7 ⟨rfl, hb7⟩
    have B7 := hidIt (below_then B6.out hb7)
    have hR7 := hidIt (hR6.out.below hb7)
    have hS7 := hidIt (hS6.out.below hb7)
    clear hb7 hR6 hS6
    go_wp2_with (fail)
    refine (sameS_eq al am r cl cm L (by have := hrl.out; omega) _ hR7 hS7).mono ?_
    rintro e w8 ⟨rfl, hb8⟩
    have B8 := hidIt (below_then B7.out hb8)
    obtain ⟨es, hes⟩ : ∃ es, Hid (str [] = es) := ⟨_, rfl⟩
    have q2 : (es.toList == es.toList) = true := by simp
    have cs := conv_str w8 none 0 0 [] rfl (bytes_nil _ _)
    rw [hes.out] at cs
    clear hb8 hR7 hS7
    go_wp2_with (fail)
    refine (sameS_eq none none 0 0 0 [] (by decide) _ (rds_none _) (rds_none _)).mono ?_
    rintro e w9 ⟨rfl, hb9⟩
    have B9 := hidIt (below_then B8.out hb9)
    clear hb9
    go_wp2_with (fail)
    go_ret
    exact ⟨rfl, B9.out⟩
  obtain ⟨i, rfl⟩ := Int.eq_ofNat_of_zero_le (show 0 ≤ b by omega)
  have hir : Hid (i < rounds len0 sz) := by show _ < _; omega
  obtain ⟨P, hP⟩ : ∃ P, Hid (Mk.pathL (blkLeaves xs sz (List.range (rounds len0 sz))) i = P) := ⟨_, rfl⟩
  obtain ⟨ys, hys⟩ : ∃ ys, Hid ((xs.drop (i * sz)).take (blen len0 sz i) = ys) := ⟨_, rfl⟩
  have hPl : Hid (P.length ≤ 9) := by
    show _ ≤ _
    rw [← hP.out]
    have := Mk.path_len 9 (Mk.part (blkLeaves xs sz (List.range (rounds len0 sz)))) 0 (blkLeaves xs sz (List.range (rounds len0 sz))).length i (by rw [leaves_len, hr.out]; have := hrl.out; omega)
    exact this
  clear hbr
  go_wp2_with (fail)
  refine (show_good a0 len0 cap0 sz i xs ys P hir.out hys hP hz1.out hz2.out (by have := hlen.out; omega) _ (hL.below B5.out hL.two) (hX.out.below B5.out)).mono ?_
  rintro e w6 ⟨a1, c1, p1, k1, rfl, hy1, hp1, hb6⟩
  have B6 := hidIt (below_then B5.out hb6)
  have hR6 := hidIt (hR5.out.below hb6)
  have hS6 := hidIt (hS5.out.below hb6)
  have hy6 := hidIt hy1
  have hp6 := hidIt hp1
  obtain ⟨nl, hnl⟩ : ∃ l, Hid (ys.length = l) := ⟨_, rfl⟩
  obtain ⟨pl, hpl⟩ : ∃ l, Hid (P.length = l) := ⟨_, rfl⟩
  rw [hpl.out] at hp6
  rw [hnl.out, hpl.out]
  clear hb6 hR5 hS5 hy1 hp1
  go_wp2_with (fail)
  refine (refshow_good a0 len0 cap0 sz i xs ys P hir.out hys hP hz1.out hz2.out (by have := hlen.out; omega) _ (hL.below B6.out hL.two) (hX.out.below B6.out)).mono ?_
  rintro e w7 ⟨a2, c2, p2, k2, rfl, hy2, hp2, hb7⟩
  have B7 := hidIt (below_then B6.out hb7)
  have hR7 := hidIt (hR6.out.below hb7)
  have hS7 := hidIt (hS6.out.below hb7)
  have hy7 := hidIt (rowB_below hy6.out hb7)
  have hp7 := hidIt (hp6.out.below hb7)
  have hz7 := hidIt hy2
  have hq7 := hidIt hp2
  rw [hpl.out] at hq7
  rw [hnl.out, hpl.out]
  clear hb7 hR6 hS6 hy6 hp6 hy2 hp2
  go_wp2_with (fail)
  refine (sameS_eq al am r cl cm L (by have := hrl.out; omega) _ hR7 hS7).mono ?_
  rintro e w8 ⟨rfl, hb8⟩
  have B8 := hidIt (below_then B7.out hb8)
  obtain ⟨es, hes⟩ : ∃ es, Hid (str ys = es) := ⟨_, rfl⟩
  have q2 : (es.toList == es.toList) = true := by simp
  have cs1 := conv_str w8 a1 nl c1 ys hnl.out.symm (rowB_below hy7.out hb8).bytes
  have cs2 := conv_str w8 a2 nl c2 ys hnl.out.symm (rowB_below hz7.out hb8).bytes
  rw [hes.out] at cs1 cs2
  have hp8 := hidIt (hp7.out.below hb8)
  have hq8 := hidIt (hq7.out.below hb8)
  clear hb8 hR7 hS7 hy7 hz7 hp7 hq7
  go_wp2_with (fail)
  refine (sameS_eq p1 p2 pl k1 k2 P (by have := hPl.out; have := hpl.out; omega) _ hp8 hq8).mono ?_
  rintro e w9 ⟨rfl, hb9⟩
  have B9 := hidIt (below_then B8.out hb9)
  clear hb9
  go_wp2_with (fail)
  go_ret
  exact ⟨rfl, B9.out⟩
end Go.Proofs.YtgkomejckbccdaaDoor
