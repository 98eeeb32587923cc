import Derived.Test.YtgkomejckbccdaaDoorRefBk
import Derived.Test.YtgkomejckbccdaaDoorSee
import Derived.Test.YtgkomejckbccdaaDoorPathM
namespace Go.Proofs.YtgkomejckbccdaaDoor
open Go.RowKit
theorem leaves_len (xs : List Nat) (sz k : Nat) : (blkLeaves xs sz (List.range k)).length = k := by simp [blkLeaves]
theorem leaves_sr (xs : List Nat) (sz : Nat) (ks : List Nat) : Sr (blkLeaves xs sz ks) := by
  intro s hs
  obtain ⟨k, _, rfl⟩ := List.mem_map.1 hs
  rw [blkLeaf, Mk.leaf_size]; decide
theorem rds_of {w : World} {base n : Nat} {v : Value} {ss : List ByteArray} (h : w.ownsRow base 9 1 v n (svals ss)) (hn : n = ss.length) : ∃ a c, v = .slice a n c ∧ RdS w a n c ss := by
  obtain ⟨a, c, hv, hc, hs, _⟩ := owned_strs h hn
  subst hn
  exact ⟨a, c, hv, rfl, hc, hs⟩
theorem rowB_own {w : World} {base n : Nat} {v : Value} {bs : List Nat} (h : w.ownsRow base 5 1 v n (vals bs)) (hn : n = bs.length) (hlt : ∀ x ∈ bs, x < 256) : ∃ a c, v = .slice a n c ∧ RowB w a n c bs := by
  obtain ⟨a, c, hv, hby, _⟩ := owned_bytes h hn
  have h2 := h.2
  subst hn
  have hv0 := hv
  rcases h2 with ⟨h1, h0⟩ | ⟨g, cap, cur, h1, _, _, h3, h4, _⟩
  · rw [h1] at hv
    obtain ⟨e1, e2, e3⟩ := Value.slice.inj hv
    exact ⟨a, c, hv0, hby, rfl, fun _ => ⟨e3.symm, List.eq_nil_of_length_eq_zero h0⟩, hlt, by omega, by rw [← e3]; unfold maxLen; omega⟩
  · rw [h1] at hv
    obtain ⟨e1, e2, e3⟩ := Value.slice.inj hv
    exact ⟨a, c, hv0, hby, rfl, (fun ha => by rw [ha] at e1; cases e1), hlt, by omega, by omega⟩
theorem rowB_below {w wr : World} {a : Option Addr} {n c : Nat} {xs : List Nat} (h : RowB w a n c xs) (hb : Below w.heap.size w wr) : RowB wr a n c xs := ⟨h.bytes.below hb, h.len, h.nil, h.lt, h.lecap, h.capm⟩
theorem bclone_any (x : Addr) (n cap : Nat) (bs : List Nat) (hlt : ∀ x ∈ bs, x < 256) (hn : Hid (n = bs.length)) (hbig : n ≤ 140737488355328) (w : World) (h : Hid (Bytes w (some x) bs)) :
    Calls Tryd.prog 75 #[.slice (some x) n cap] w fun e w' => (∃ a' c', e = .returned (.slice a' n c') ∧ RowB w' a' n c' bs) ∧ Below w.heap.size w w' := by
  have hq : (binOp .eql 22 (.slice (some x) n cap) (.slice none 0 0)).run Tryd.prog w = .ok (.bool false) w := Lib.run_eql_slice_nil (P := Tryd.prog) w 22 5 (some x) n cap 0 0 Tryd.underlying22
  have hbA : Hid (Below w.heap.size w (w.alloc (.cells #[] 5))) := (Below.refl _ _).alloc (Nat.le_refl _) _
  have hown : Hid ((w.alloc (.cells #[] 5)).ownsRow w.heap.size 5 1 (.slice (some ⟨w.heap.size, 0, none⟩) 0 0) 0 []) := World.ownsRow_made w #[] 0 (Nat.le_refl _) (by unfold maxLen; omega) rfl
  go_enter Tryd.func75, Tryd.ntmps75
  go_wp2_with (at_builtin; refine wpList_append_bytes _ rfl _ _ rfl w.heap.size (.slice (some ⟨w.heap.size, 0, none⟩) 0 0) 0 [] rfl hown.out (some x) n cap bs rfl hn.out (h.out.below hbA.out) (fun e => by cases e) (by rw [← hn.out]; omega) hbA.out.size ?_)
  intro v' w2 hown2 hg
  have hb2 : Hid (Below w.heap.size w w2) := hbA.out.trans ((Below.refl w.heap.size _).grown hg hbA.out.size (fun q hq => by cases hq; exact Nat.le_refl _))
  rw [← hn.out] at hown2
  obtain ⟨a', c', rfl, hby⟩ := rowB_own hown2 hn.out hlt
  try rw [← hn.out]
  have hby2 := hidIt hby
  clear hown hown2 hg hby
  go_wp2_with (fail)
  go_ret
  exact ⟨⟨a', c', rfl, hby2.out⟩, hb2.out⟩
theorem of_good (a : Option Addr) (len cap sz : Nat) (xs : List Nat) (v : ByteArray) (hv : Hid (Mk.root (blkLeaves xs sz (List.range (rounds len sz))) = v)) (hs1 : 1 ≤ sz) (hs2 : sz < 9223372036854775808) (hlen : len ≤ 1000) (w : World) (hL : Laid w) (hX : Hid (RowB w a len cap xs)) :
    Calls Tryd.prog 43 #[.slice a len cap, .int .i64 (sz : Int)] w fun e w' => e = .returned (.tuple #[.string v, .int .i64 0]) ∧ Below w.heap.size w w' := by
  obtain ⟨L, hl⟩ : ∃ L, Hid (blkLeaves xs sz (List.range (rounds len sz)) = L) := ⟨_, rfl⟩
  obtain ⟨r, hr⟩ : ∃ r, Hid (rounds len sz = r) := ⟨_, rfl⟩
  have hll : Hid (r = L.length) := by show _ = _; rw [← hl.out, leaves_len, hr.out]
  have hS : Hid (Sr L) := by show Sr _; rw [← hl.out]; exact leaves_sr _ _ _
  have hv2 : Hid (Mk.root L = v) := by show _ = _; rw [← hl.out]; exact hv.out
  have hrl : Hid (r ≤ 1001) := by
    show _ ≤ _
    rw [← hr.out]
    unfold rounds
    split
    · omega
    · have := Nat.div_le_self (len - 1) sz; omega
  have d1 := hidIt (blocks_good a len cap sz xs hs1 hs2 (by omega) w hL hX.out)
  rw [hl.out, hr.out] at d1
  clear hv hX
  go_enter Tryd.func43, Tryd.ntmps43
  go_wp2_with (fail)
  refine d1.out.mono ?_
  rintro e w1 ⟨⟨v1, rfl, hown⟩, hb1⟩
  obtain ⟨al, cl, rfl, hR⟩ := rds_of hown hll.out
  have hR2 := hidIt hR
  have B1 := hidIt hb1
  clear hown hb1 hR d1
  go_wp2_with (fail)
  refine (root_rec r L v al r cl _ hv2 (Nat.le_refl _) (by have := hrl.out; omega) hS.out.sm (hL.below B1.out hL.two) hR2).mono ?_
  rintro e w2 ⟨rfl, hb2⟩
  have B2 := hidIt (below_then B1.out hb2)
  clear hb2 B1
  go_wp2_with (fail)
  go_ret2
  exact ⟨rfl, B2.out⟩
theorem of_bad (a : Option Addr) (len cap : Nat) (sz : Int) (h : sz < 1) (w : World) :
    Calls Tryd.prog 43 #[.slice a len cap, .int .i64 sz] w fun e w' => e = .returned (.tuple #[.string ByteArray.empty, .int .i64 1]) ∧ Below w.heap.size w w' := by
  go_enter Tryd.func43, Tryd.ntmps43
  go_wp2_with (fail)
  refine (blocks_bad1 a len cap sz h _).mono ?_
  rintro e w1 ⟨rfl, hb1⟩
  have B1 := hidIt hb1
  clear hb1
  go_wp2_with (fail)
  go_ret2
  exact ⟨rfl, B1.out⟩
theorem show_bad (a : Option Addr) (len cap : Nat) (sz b : Int) (h : sz < 1) (w : World) :
    Calls Tryd.prog 45 #[.slice a len cap, .int .i64 sz, .int .i64 b] w fun e w' => e = .returned (.tuple #[.slice none 0 0, .slice none 0 0, .int .i64 1]) ∧ Below w.heap.size w w' := by
  go_enter Tryd.func45, Tryd.ntmps45
  go_wp2_with (fail)
  refine (blocks_bad1 a len cap sz h _).mono ?_
  rintro e w1 ⟨rfl, hb1⟩
  have B1 := hidIt hb1
  clear hb1
  go_wp2_with (fail)
  refine bodyPost_ret (results_tmp3 rfl _ _ _) rfl ?_
  exact ⟨rfl, B1.out⟩
theorem show_bad2 (a : Option Addr) (len cap sz : Nat) (b : Int) (xs : List Nat) (hb : b < 0 ∨ (rounds len sz : Int) ≤ b) (hs1 : 1 ≤ sz) (hs2 : sz < 9223372036854775808) (hlen : len ≤ 1000) (w : World) (hL : Laid w) (hX : Hid (RowB w a len cap xs)) :
    Calls Tryd.prog 45 #[.slice a len cap, .int .i64 (sz : Int), .int .i64 b] w fun e w' => e = .returned (.tuple #[.slice none 0 0, .slice none 0 0, .int .i64 1]) ∧ Below w.heap.size w w' := by
  obtain ⟨L, hl⟩ : ∃ L, Hid (blkLeaves xs sz (List.range (rounds len sz)) = L) := ⟨_, rfl⟩
  obtain ⟨r, hr⟩ : ∃ r, Hid (rounds len sz = r) := ⟨_, rfl⟩
  have hll : Hid (r = L.length) := by show _ = _; rw [← hl.out, leaves_len, hr.out]
  have hb2 : Hid (b < 0 ∨ (r : Int) ≤ b) := by rw [hr.out] at hb; exact hb
  have d1 := hidIt (blocks_good a len cap sz xs hs1 hs2 (by omega) w hL hX.out)
  rw [hl.out, hr.out] at d1
  clear hX hb
  go_enter Tryd.func45, Tryd.ntmps45
  go_wp2_with (fail)
  refine d1.out.mono ?_
  rintro e w1 ⟨⟨v1, rfl, hown⟩, hb1⟩
  obtain ⟨al, cl, rfl, hR⟩ := rds_of hown hll.out
  have B1 := hidIt hb1
  clear hown hb1 hR d1
  go_wp2_with (fail)
  refine (path_bad al r cl b hb2.out _).mono ?_
  rintro e w2 ⟨rfl, hb2⟩
  have B2 := hidIt (below_then B1.out hb2)
  clear hb2 B1
  go_wp2_with (fail)
  refine bodyPost_ret (results_tmp3 rfl _ _ _) rfl ?_
  exact ⟨rfl, B2.out⟩
theorem refof_good (a : Option Addr) (len cap sz : Nat) (xs : List Nat) (v : ByteArray) (hv : Hid (Mk.root (blkLeaves xs sz (List.range (rounds len sz))) = v)) (hs1 : 1 ≤ sz) (hs2 : sz < 9223372036854775808) (hlen : len ≤ 1000) (w : World) (hL : Laid w) (hX : Hid (RowB w a len cap xs)) :
    Calls Tryd.prog 44 #[.slice a len cap, .int .i64 (sz : Int)] w fun e w' => e = .returned (.tuple #[.string v, .int .i64 0]) ∧ Below w.heap.size w w' := by
  obtain ⟨L, hl⟩ : ∃ L, Hid (blkLeaves xs sz (List.range (rounds len sz)) = L) := ⟨_, rfl⟩
  obtain ⟨r, hr⟩ : ∃ r, Hid (rounds len sz = r) := ⟨_, rfl⟩
  have hll : Hid (r = L.length) := by show _ = _; rw [← hl.out, leaves_len, hr.out]
  have hS : Hid (Sr L) := by show Sr _; rw [← hl.out]; exact leaves_sr _ _ _
  have hv2 : Hid (Mk.root L = v) := by show _ = _; rw [← hl.out]; exact hv.out
  have hrl : Hid (r ≤ 1001) := by
    show _ ≤ _
    rw [← hr.out]
    unfold rounds
    split
    · omega
    · have := Nat.div_le_self (len - 1) sz; omega
  have d1 := hidIt (refblocks_good a len cap sz xs hs1 hs2 hlen w hX.out)
  rw [hl.out, hr.out] at d1
  clear hv hX
  go_enter Tryd.func44, Tryd.ntmps44
  go_wp2_with (fail)
  refine d1.out.mono ?_
  rintro e w1 ⟨⟨v1, rfl, hown⟩, hb1⟩
  obtain ⟨al, cl, rfl, hR⟩ := rds_of hown hll.out
  have hR2 := hidIt hR
  have B1 := hidIt hb1
  clear hown hb1 hR d1
  go_wp2_with (fail)
  refine (refroot_rec r L v al r cl _ hv2 (Nat.le_refl _) (by have := hrl.out; omega) hS.out (hL.below B1.out hL.two) hR2).mono ?_
  rintro e w2 ⟨rfl, hb2⟩
  have B2 := hidIt (below_then B1.out hb2)
  clear hb2 B1
  go_wp2_with (fail)
  go_ret2
  exact ⟨rfl, B2.out⟩
theorem refof_bad (a : Option Addr) (len cap : Nat) (sz : Int) (h : sz < 1) (w : World) :
    Calls Tryd.prog 44 #[.slice a len cap, .int .i64 sz] w fun e w' => e = .returned (.tuple #[.string ByteArray.empty, .int .i64 1]) ∧ Below w.heap.size w w' := by
  go_enter Tryd.func44, Tryd.ntmps44
  go_wp2_with (fail)
  refine (refblocks_bad1 a len cap sz h _).mono ?_
  rintro e w1 ⟨rfl, hb1⟩
  have B1 := hidIt hb1
  clear hb1
  go_wp2_with (fail)
  go_ret2
  exact ⟨rfl, B1.out⟩
theorem refshow_bad (a : Option Addr) (len cap : Nat) (sz b : Int) (h : sz < 1) (w : World) :
    Calls Tryd.prog 46 #[.slice a len cap, .int .i64 sz, .int .i64 b] w fun e w' => e = .returned (.tuple #[.slice none 0 0, .slice none 0 0, .int .i64 1]) ∧ Below w.heap.size w w' := by
  go_enter Tryd.func46, Tryd.ntmps46
  go_wp2_with (fail)
  refine (refblocks_bad1 a len cap sz h _).mono ?_
  rintro e w1 ⟨rfl, hb1⟩
  have B1 := hidIt hb1
  clear hb1
  go_wp2_with (fail)
  refine bodyPost_ret (results_tmp3 rfl _ _ _) rfl ?_
  exact ⟨rfl, B1.out⟩
theorem refshow_bad2 (a : Option Addr) (len cap sz : Nat) (b : Int) (xs : List Nat) (hb : b < 0 ∨ (rounds len sz : Int) ≤ b) (hs1 : 1 ≤ sz) (hs2 : sz < 9223372036854775808) (hlen : len ≤ 1000) (w : World) (_hL : Laid w) (hX : Hid (RowB w a len cap xs)) :
    Calls Tryd.prog 46 #[.slice a len cap, .int .i64 (sz : Int), .int .i64 b] w fun e w' => e = .returned (.tuple #[.slice none 0 0, .slice none 0 0, .int .i64 1]) ∧ Below w.heap.size w w' := by
  obtain ⟨L, hl⟩ : ∃ L, Hid (blkLeaves xs sz (List.range (rounds len sz)) = L) := ⟨_, rfl⟩
  obtain ⟨r, hr⟩ : ∃ r, Hid (rounds len sz = r) := ⟨_, rfl⟩
  have hll : Hid (r = L.length) := by show _ = _; rw [← hl.out, leaves_len, hr.out]
  have hb2 : Hid (b < 0 ∨ (r : Int) ≤ b) := by rw [hr.out] at hb; exact hb
  have d1 := hidIt (refblocks_good a len cap sz xs hs1 hs2 hlen w hX.out)
  rw [hl.out, hr.out] at d1
  clear hX hb
  go_enter Tryd.func46, Tryd.ntmps46
  go_wp2_with (fail)
  refine d1.out.mono ?_
  rintro e w1 ⟨⟨v1, rfl, hown⟩, hb1⟩
  obtain ⟨al, cl, rfl, hR⟩ := rds_of hown hll.out
  have B1 := hidIt hb1
  clear hown hb1 hR d1
  go_wp2_with (fail)
  refine (refpath_bad al r cl b hb2.out _).mono ?_
  rintro e w2 ⟨rfl, hb2⟩
  have B2 := hidIt (below_then B1.out hb2)
  clear hb2 B1
  go_wp2_with (fail)
  refine bodyPost_ret (results_tmp3 rfl _ _ _) rfl ?_
  exact ⟨rfl, B2.out⟩
/-- the block and its path -/
def ShowR (w0 : World) (bs : List Nat) (P : List ByteArray) (e : Ending) (w' : World) : Prop := ∃ a' c' aP cP, e = .returned (.tuple #[.slice a' bs.length c', .slice aP P.length cP, .int .i64 0]) ∧ RowB w' a' bs.length c' bs ∧ RdS w' aP P.length cP P ∧ Below w0.heap.size w0 w'
theorem rounds_div {len sz b : Nat} (h : b < rounds len sz) : b ≤ (len - 1) / sz ∧ 0 < len := by
  unfold rounds at h
  split at h
  · omega
  · omega
theorem show_good (a : Option Addr) (len cap sz b : Nat) (xs bs : List Nat) (P : List ByteArray) (hb : b < rounds len sz) (hbs : Hid ((xs.drop (b * sz)).take (blen len sz b) = bs)) (hP : Hid (Mk.pathL (blkLeaves xs sz (List.range (rounds len sz))) b = P)) (hs1 : 1 ≤ sz) (hs2 : sz < 9223372036854775808) (hlen : len ≤ 1000) (w : World) (hL : Laid w) (hX : Hid (RowB w a len cap xs)) :
    Calls Tryd.prog 45 #[.slice a len cap, .int .i64 (sz : Int), .int .i64 (b : Int)] w (ShowR w bs P) := by
  obtain ⟨L, hl⟩ : ∃ L, Hid (blkLeaves xs sz (List.range (rounds len sz)) = L) := ⟨_, rfl⟩
  obtain ⟨r, hr⟩ : ∃ r, Hid (rounds len sz = r) := ⟨_, rfl⟩
  have hll : Hid (r = L.length) := by show _ = _; rw [← hl.out, leaves_len, hr.out]
  have hS : Hid (Sr L) := by show Sr _; rw [← hl.out]; exact leaves_sr _ _ _
  have hrl : Hid (r ≤ 1001) := by
    show _ ≤ _
    rw [← hr.out]
    unfold rounds
    split
    · omega
    · have := Nat.div_le_self (len - 1) sz; omega
  have hbr : Hid (b < r) := by show _ < _; rw [← hr.out]; exact hb
  have hP2 : Hid (Mk.pathL L b = P) := by show _ = _; rw [← hl.out]; exact hP.out
  have d1 := hidIt (blocks_good a len cap sz xs hs1 hs2 (by omega) w hL hX.out)
  rw [hl.out, hr.out] at d1
  have hle := hX.out.len
  have hpn0 : b * sz ≤ len - 1 := block_in (rounds_div hb).1
  have h0len := (rounds_div hb).2
  have hcap : len ≤ cap := by rw [hle]; exact hX.out.lecap
  obtain ⟨p, hp⟩ : ∃ p, Hid (b * sz = p) := ⟨_, rfl⟩
  obtain ⟨q0, hq0⟩ : ∃ z, Hid (len - p = z) := ⟨_, rfl⟩
  obtain ⟨e, he⟩ : ∃ e, Hid (blen len sz b = e) := ⟨_, rfl⟩
  obtain ⟨q, hq⟩ : ∃ q, Hid (p + e = q) := ⟨_, rfl⟩
  have hpn : Hid (p ≤ len - 1) := by show _ ≤ _; rw [← hp.out]; exact hpn0
  have he2 : Hid (min sz q0 = e) := by show _ = _; rw [← he.out, blen, hp.out, hq0.out]
  have he1 : Hid (1 ≤ e) := by show _ ≤ _; have := he2.out; have := hq0.out; have := hpn.out; omega
  have hql : Hid (q ≤ len) := by show _ ≤ _; have := hq.out; have := he2.out; have := hq0.out; have := hpn.out; omega
  have m1 : (b : Int) * (sz : Int) = (p : Int) := by rw [← hp.out]; simp
  have m1' : (sz : Int) * (b : Int) = (p : Int) := by rw [Int.mul_comm]; exact m1
  have m2 : IntKind.i64.wrap (p : Int) = (p : Int) := by have := hpn.out; exact IntWalk.i64_in _ (by omega)
  have m3 : (p : Int) + (e : Int) = (q : Int) := by have := hq.out; omega
  have m3' : (e : Int) + (p : Int) = (q : Int) := by have := hq.out; omega
  have m4 : IntKind.i64.wrap (q : Int) = (q : Int) := by have := hql.out; exact IntWalk.i64_in _ (by omega)
  have m5 : (len : Int) - (p : Int) = (q0 : Int) := by have := hq0.out; have := hpn.out; omega
  have m6 : IntKind.i64.wrap (q0 : Int) = (q0 : Int) := by have := hq0.out; exact IntWalk.i64_in _ (by omega)
  have m7 : min (q0 : Int) (sz : Int) = (e : Int) := by have := he2.out; omega
  have hbl : Hid (e = bs.length) := by
    show _ = _
    rw [← hbs.out, List.length_take, List.length_drop, ← hle, he.out, hp.out]; have := hql.out; have := hq.out; omega
  obtain ⟨y, hy, hby⟩ : ∃ y, Hid ((if cap = p then a else a.map fun x => x.add p) = some y) ∧ Hid (Bytes w (some y) bs) := by
    obtain ⟨b0, off0, ha, _⟩ := hX.out.bytes 0 (by omega)
    have h3 := sub_bytes hX.out.bytes p e
    rw [ha] at h3
    refine ⟨(⟨b0, off0, none⟩ : Addr).add p, ?_, ?_⟩
    · show _ = _
      rw [if_neg (by have := hpn.out; omega), ha]; rfl
    · show Bytes _ _ _
      rw [← hbs.out, he.out, hp.out]; exact h3
  have hblt : Hid (∀ x ∈ bs, x < 256) := by
    show ∀ x ∈ bs, _
    rw [← hbs.out]; exact fun x hx => hX.out.lt x (List.mem_of_mem_drop (List.mem_of_mem_take hx))
  obtain ⟨c5, hc5⟩ : ∃ z, Hid (cap - p = z) := ⟨_, rfl⟩
  have sl := fun W => sliceLH a xs cap p q (by have := hq.out; omega) (by rw [← hle]; exact hql.out) hX.out.lecap W
  rw [hy.out, ← hle, hc5.out, show q - p = e by have := hq.out; omega] at sl
  have dB := fun W => blen_any len sz b (by omega) (by rw [hp.out]; have := hpn.out; omega) W
  rw [he.out] at dB
  have z1 : (0 : Int) ≤ (p : Int) := by omega
  have z2 : (p : Int) ≤ (q : Int) := by have := hq.out; omega
  have z3 : (q : Int) ≤ (len : Int) := by have := hql.out; omega
  have hlb : Hid (len ≤ 1000) := hlen
  have hbo : Hid (∀ W, Below w.heap.size w W → Below w.heap.size W (W.alloc (.cells #[] 5))) := fun W hW => (Below.refl _ _).alloc hW.size _
  clear hX hP hb hle hpn0 h0len hcap hp hq0 he hq hpn he2 hbs hy hc5 hl hr
  have dB := hidIt dB
  go_enter Tryd.func45, Tryd.ntmps45
  go_wp2_with (fail)
  refine d1.out.mono ?_
  rintro e5 w1 ⟨⟨v1, rfl, hown⟩, hb1⟩
  obtain ⟨al, cl, rfl, hR⟩ := rds_of hown hll.out
  have hR2 := hidIt hR
  have B1 := hidIt hb1
  clear hown hb1 hR d1
  go_wp2_with (fail)
  refine (path_good al r cl b L P hP2 hbr.out hS.out.sm (by have := hrl.out; omega) _ (hL.below B1.out hL.two) hR2).mono ?_
  rintro e6 w2 ⟨⟨v2, rfl, hown2⟩, hb2⟩
  obtain ⟨aP, cP, rfl, hRP⟩ := rds_of hown2 rfl
  have hRP2 := hidIt hRP
  have B2 := hidIt (below_then B1.out hb2)
  clear hown2 hb2 hRP B1
  go_wp2_with (fail)
  refine (dB.out _).mono ?_
  rintro e7 w3 ⟨rfl, rfl⟩
  go_wp2_with (fail)
  refine (bclone_any y e c5 bs hblt.out hbl (by have := hbl.out; have := hlb.out; have := hql.out; omega) _ (hby.out.below B2.out)).mono ?_
  rintro e8 w4 ⟨⟨a', c', rfl, hby4⟩, hb4⟩
  have B4 := hidIt (below_then B2.out hb4)
  have hby5 := hidIt hby4
  have hRP4 := hidIt (hRP2.out.below hb4)
  have hre : Hid (RowB w4 a' bs.length c' bs) := by show RowB _ _ _ _ _; rw [← hbl.out]; exact hby5.out
  clear hb4 hby4 hRP2 B2
  go_wp2_with (fail)
  refine bodyPost_ret (results_tmp3 rfl _ _ _) rfl ?_
  exact ⟨a', c', aP, cP, by rw [← hbl.out]; rfl, hre.out, hRP4.out, B4.out⟩
theorem refshow_good (a : Option Addr) (len cap sz b : Nat) (xs bs : List Nat) (P : List ByteArray) (hb : b < rounds len sz) (hbs : Hid ((xs.drop (b * sz)).take (blen len sz b) = bs)) (hP : Hid (Mk.pathL (blkLeaves xs sz (List.range (rounds len sz))) b = P)) (hs1 : 1 ≤ sz) (hs2 : sz < 9223372036854775808) (hlen : len ≤ 1000) (w : World) (hL : Laid w) (hX : Hid (RowB w a len cap xs)) :
    Calls Tryd.prog 46 #[.slice a len cap, .int .i64 (sz : Int), .int .i64 (b : Int)] w (ShowR w bs P) := by
  obtain ⟨L, hl⟩ : ∃ L, Hid (blkLeaves xs sz (List.range (rounds len sz)) = L) := ⟨_, rfl⟩
  obtain ⟨r, hr⟩ : ∃ r, Hid (rounds len sz = r) := ⟨_, rfl⟩
  have hll : Hid (r = L.length) := by show _ = _; rw [← hl.out, leaves_len, hr.out]
  have hS : Hid (Sr L) := by show Sr _; rw [← hl.out]; exact leaves_sr _ _ _
  have hrl : Hid (r ≤ 1001) := by
    show _ ≤ _
    rw [← hr.out]
    unfold rounds
    split
    · omega
    · have := Nat.div_le_self (len - 1) sz; omega
  have hbr : Hid (b < r) := by show _ < _; rw [← hr.out]; exact hb
  have hP2 : Hid (Mk.pathL L b = P) := by show _ = _; rw [← hl.out]; exact hP.out
  have d1 := hidIt (refblocks_good a len cap sz xs hs1 hs2 hlen w hX.out)
  rw [hl.out, hr.out] at d1
  have hle := hX.out.len
  have hpn0 : b * sz ≤ len - 1 := block_in (rounds_div hb).1
  have h0len := (rounds_div hb).2
  have hcap : len ≤ cap := by rw [hle]; exact hX.out.lecap
  obtain ⟨p, hp⟩ : ∃ p, Hid (b * sz = p) := ⟨_, rfl⟩
  obtain ⟨q0, hq0⟩ : ∃ z, Hid (len - p = z) := ⟨_, rfl⟩
  obtain ⟨e, he⟩ : ∃ e, Hid (blen len sz b = e) := ⟨_, rfl⟩
  obtain ⟨q, hq⟩ : ∃ q, Hid (p + e = q) := ⟨_, rfl⟩
  have hpn : Hid (p ≤ len - 1) := by show _ ≤ _; rw [← hp.out]; exact hpn0
  have he2 : Hid (min sz q0 = e) := by show _ = _; rw [← he.out, blen, hp.out, hq0.out]
  have he1 : Hid (1 ≤ e) := by show _ ≤ _; have := he2.out; have := hq0.out; have := hpn.out; omega
  have hql : Hid (q ≤ len) := by show _ ≤ _; have := hq.out; have := he2.out; have := hq0.out; have := hpn.out; omega
  have m1 : (b : Int) * (sz : Int) = (p : Int) := by rw [← hp.out]; simp
  have m1' : (sz : Int) * (b : Int) = (p : Int) := by rw [Int.mul_comm]; exact m1
  have m2 : IntKind.i64.wrap (p : Int) = (p : Int) := by have := hpn.out; exact IntWalk.i64_in _ (by omega)
  have m3 : (p : Int) + (e : Int) = (q : Int) := by have := hq.out; omega
  have m3' : (e : Int) + (p : Int) = (q : Int) := by have := hq.out; omega
  have m4 : IntKind.i64.wrap (q : Int) = (q : Int) := by have := hql.out; exact IntWalk.i64_in _ (by omega)
  have m5 : (len : Int) - (p : Int) = (q0 : Int) := by have := hq0.out; have := hpn.out; omega
  have m6 : IntKind.i64.wrap (q0 : Int) = (q0 : Int) := by have := hq0.out; exact IntWalk.i64_in _ (by omega)
  have m7 : min (q0 : Int) (sz : Int) = (e : Int) := by have := he2.out; omega
  have hbl : Hid (e = bs.length) := by
    show _ = _
    rw [← hbs.out, List.length_take, List.length_drop, ← hle, he.out, hp.out]; have := hql.out; have := hq.out; omega
  obtain ⟨y, hy, hby⟩ : ∃ y, Hid ((if cap = p then a else a.map fun x => x.add p) = some y) ∧ Hid (Bytes w (some y) bs) := by
    obtain ⟨b0, off0, ha, _⟩ := hX.out.bytes 0 (by omega)
    have h3 := sub_bytes hX.out.bytes p e
    rw [ha] at h3
    refine ⟨(⟨b0, off0, none⟩ : Addr).add p, ?_, ?_⟩
    · show _ = _
      rw [if_neg (by have := hpn.out; omega), ha]; rfl
    · show Bytes _ _ _
      rw [← hbs.out, he.out, hp.out]; exact h3
  have hblt : Hid (∀ x ∈ bs, x < 256) := by
    show ∀ x ∈ bs, _
    rw [← hbs.out]; exact fun x hx => hX.out.lt x (List.mem_of_mem_drop (List.mem_of_mem_take hx))
  obtain ⟨c5, hc5⟩ : ∃ z, Hid (cap - p = z) := ⟨_, rfl⟩
  have sl := fun W => sliceLH a xs cap p q (by have := hq.out; omega) (by rw [← hle]; exact hql.out) hX.out.lecap W
  rw [hy.out, ← hle, hc5.out, show q - p = e by have := hq.out; omega] at sl
  have dB := fun W => blen_any len sz b (by omega) (by rw [hp.out]; have := hpn.out; omega) W
  rw [he.out] at dB
  have z1 : (0 : Int) ≤ (p : Int) := by omega
  have z2 : (p : Int) ≤ (q : Int) := by have := hq.out; omega
  have z3 : (q : Int) ≤ (len : Int) := by have := hql.out; omega
  have hlb : Hid (len ≤ 1000) := hlen
  have hbo : Hid (∀ W, Below w.heap.size w W → Below w.heap.size W (W.alloc (.cells #[] 5))) := fun W hW => (Below.refl _ _).alloc hW.size _
  clear hX hP hb hle hpn0 h0len hcap hp hq0 he hq hpn he2 hbs hy hc5 hl hr
  have dB := hidIt dB
  go_enter Tryd.func46, Tryd.ntmps46
  go_wp2_with (fail)
  refine d1.out.mono ?_
  rintro e5 w1 ⟨⟨v1, rfl, hown⟩, hb1⟩
  obtain ⟨al, cl, rfl, hR⟩ := rds_of hown hll.out
  have hR2 := hidIt hR
  have B1 := hidIt hb1
  clear hown hb1 hR d1
  go_wp2_with (fail)
  refine (refpath_good al r cl b L P hP2 hbr.out hS.out (by have := hrl.out; omega) _ (hL.below B1.out hL.two) hR2).mono ?_
  rintro e6 w2 ⟨⟨v2, rfl, hown2⟩, hb2⟩
  obtain ⟨aP, cP, rfl, hRP⟩ := rds_of hown2 rfl
  have hRP2 := hidIt hRP
  have B2 := hidIt (below_then B1.out hb2)
  clear hown2 hb2 hRP B1
  have hbA := hidIt (hbo.out _ B2.out)
  have hown : Hid ((w2.alloc (.cells #[] 5)).ownsRow w2.heap.size 5 1 (.slice (some ⟨w2.heap.size, 0, none⟩) 0 0) 0 []) := World.ownsRow_made w2 #[] 0 (Nat.le_refl _) (by unfold maxLen; omega) rfl
  have hsz : Hid (w2.heap.size ≤ (w2.alloc (.cells #[] 5)).heap.size) := by show _ ≤ _; simp
  go_wp2_with (at_builtin; refine wpList_append_bytes _ rfl _ _ rfl w2.heap.size (.slice (some ⟨w2.heap.size, 0, none⟩) 0 0) 0 [] rfl hown.out (some y) e c5 bs rfl hbl.out (hby.out.below (B2.out.trans hbA.out)) (fun e => by cases e) (by rw [← hbl.out]; have := hlb.out; have := hql.out; omega) hsz.out ?_)
  intro v' w4 hown2 hg
  have hb4 : Below w2.heap.size w2 w4 := ((Below.refl w2.heap.size w2).alloc (Nat.le_refl _) _).grown hg hsz.out (fun q hq => by cases hq; exact Nat.le_refl _)
  obtain ⟨a', c', rfl, hby4⟩ := rowB_own hown2 (by simp) hblt.out
  have B4 := hidIt (below_then B2.out hb4)
  have hre : Hid (RowB w4 a' bs.length c' bs) := by show RowB _ _ _ _ _; first | exact hby4 | (have h9 := hby4; simp only [Nat.zero_add] at h9; exact h9)
  have hRP4 := hidIt (hRP2.out.below hb4)
  clear hb4 hby4 hRP2 B2 hown hown2 hg hbA
  go_wp2_with (fail)
  refine bodyPost_ret (results_tmp3 rfl _ _ _) rfl ?_
  exact ⟨a', c', aP, cP, by rw [← hbl.out]; rfl, hre.out, hRP4.out, B4.out⟩
end Go.Proofs.YtgkomejckbccdaaDoor
