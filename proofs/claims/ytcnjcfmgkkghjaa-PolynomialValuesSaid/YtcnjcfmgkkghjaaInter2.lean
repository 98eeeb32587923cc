import Derived.Test.YtcnjcfmgkkghjaaInter
namespace Go.Proofs.Ytcnjcfmgkkghjaa
open Go.RowKit
theorem bytes_lit (w : World) (bs : List Nat) (cs : Array Value) (t : TypeId) (h : cs = (vals bs).toArray) : Bytes (w.alloc (.cells cs t)) (some ⟨w.heap.size, 0, none⟩) bs := by
  subst h
  intro i hi
  refine ⟨w.heap.size, 0, rfl, ?_⟩
  rw [(Blk.new w t _).cell, Nat.zero_add]
  simp [vals, List.getD, hi]
theorem ok_of {S : List Nat} (h : ∀ i, S.getD i 0 < 256) : Pl.Ok S := fun y hy => by
  obtain ⟨i, hi, rfl⟩ := List.getElem_of_mem hy
  have := h i
  rw [List.getD_eq_getElem?_getD, List.getElem?_eq_getElem hi] at this
  exact this
set_option maxRecDepth 100000 in
set_option maxHeartbeats 1000000 in
theorem interp_any (aX aY : Option Addr) (n cX cY : Nat) (X Y : List Nat) (hn : n = X.length) (hm : n = Y.length) (hX : ∀ i, X.getD i 0 < 256) (hY : ∀ i, Y.getD i 0 < 256) (hbig : n < 140737488351232) (hval : ∀ k, k < n → Pl.hor (X.getD k 0) (ipL X Y k).2 ≠ 0) (w : World) (h1 : Bytes w aX X) (h2 : Bytes w aY Y) :
    Calls Try.prog 22 #[.slice aX n cX, .slice aY n cY] w fun e w' => (∃ a m c, e = .returned (.tuple #[.slice a m c, .int .i64 0]) ∧ m = (ipL X Y n).1.length ∧ Bytes w' a (ipL X Y n).1) ∧ Below w.heap.size w w' := by
  have n1 := hidIt hn
  have n2 := hidIt hm
  have x2 := hidIt hX
  have y2 := hidIt hY
  have v2 := hidIt hval
  have i1 := hidIt h1
  have i2 := hidIt h2
  have nb := hidIt hbig
  clear hn hm hX hY hval h1 h2
  go_enter Try.func22, Try.ntmps22
  go_wp2_with (fail)
  have st0 : Hid (IpR w ((w.alloc (.cells #[] 5)).alloc (.cells #[.int .u8 1] 5)) (some ⟨w.heap.size, 0, none⟩) (some ⟨w.heap.size + 1, 0, none⟩) aX aY [] [1] X Y) := by
    have e1 : Below w.heap.size w (w.alloc (.cells #[] 5)) := (Below.refl _ w).alloc (Nat.le_refl _) _
    have e2 : Below w.heap.size w ((w.alloc (.cells #[] 5)).alloc (.cells #[.int .u8 1] 5)) := e1.alloc (by simp) _
    have e3 := bytes_lit (w.alloc (.cells #[] 5)) [1] #[.int .u8 1] 5 rfl
    rw [World.size_alloc] at e3
    exact ⟨fun i hi => absurd hi (Nat.not_lt_zero _), e3, i1.out.below e2, i2.out.below e2, e2⟩
  go_loopw [22, 6, 7, 8, 9, 10, 11, 12] (fun i s b _ _ _ _ _ wr => ∃ (k m : Nat) (a1 a2 : Option Addr) (c1 c2 : Nat), k ≤ n ∧ i = .int .i64 k ∧ s = .slice a1 m c1 ∧ b = .slice a2 (k + 1) c2 ∧ Hid (m = (ipL X Y k).1.length) ∧ Hid (IpR w wr a1 a2 aX aY (ipL X Y k).1 (ipL X Y k).2 X Y)) (fun i _ _ _ _ _ _ _ _ => n - (intOf i).toNat)
  case atStart => exact ⟨0, 0, _, _, 0, 1, by omega, rfl, rfl, rfl, rfl, st0.out⟩
  case round =>
    obtain ⟨k, m, a1, a2, c1, c2, hk, rfl, rfl, rfl, hm, hR⟩ := hrel
    clear st0
    by_cases hlt : k < n
    · obtain ⟨bx, ox, rfl, e1⟩ := hR.out.x k (by have := n1.out; omega)
      obtain ⟨by', oy, rfl, e2⟩ := hR.out.y k (by have := n2.out; omega)
      obtain ⟨x, hx⟩ : ∃ x, Hid (X.getD k 0 = x) := ⟨_, rfl⟩
      obtain ⟨y, hy⟩ : ∃ y, Hid (Y.getD k 0 = y) := ⟨_, rfl⟩
      rw [hx.out] at e1
      clear e2
      have xb : x < 256 := by rw [← hx.out]; exact x2.out k
      have yb : y < 256 := by rw [← hy.out]; exact y2.out k
      obtain ⟨S, hS⟩ : ∃ S, Hid (S = (ipL X Y k).1) := ⟨_, rfl⟩
      obtain ⟨B, hB⟩ : ∃ B, Hid (B = (ipL X Y k).2) := ⟨_, rfl⟩
      have hSl : Hid (m = S.length) := by show _ = _; rw [hS.out]; exact hm.out
      have hBl : Hid (k + 1 = B.length) := by show _ = _; rw [hB.out]; exact (ipL_len2 X Y k).symm
      have hSb : Hid (∀ i, S.getD i 0 < 256) := by show ∀ i, _; rw [hS.out]; exact (ipL_lt X Y k).1
      have hBb : Hid (∀ i, B.getD i 0 < 256) := by show ∀ i, _; rw [hB.out]; exact (ipL_lt X Y k).2
      have hR1 : Hid (IpR w wr a1 a2 (some ⟨bx, ox, none⟩) (some ⟨by', oy, none⟩) S B X Y) := by show IpR _ _ _ _ _ _ _ _ _ _; rw [hS.out, hB.out]; exact hR.out
      have hmb : m ≤ 140737488351232 := by have := hm.out; have := ipL_len1 X Y k; have := nb.out; omega
      obtain ⟨gv, hgv⟩ : ∃ g, Hid (Pl.hor x S = g) := ⟨_, rfl⟩
      obtain ⟨bv, hbv⟩ : ∃ g, Hid (Pl.hor x B = g) := ⟨_, rfl⟩
      have hky : Hid (k < Y.length) := by have := n2.out; show _ < _; omega
      have gb : gv < 256 := by rw [← hgv.out]; exact Pl.hor_lt S (ok_of hSb.out)
      have bb : bv < 256 := by rw [← hbv.out]; exact Pl.hor_lt B (ok_of hBb.out)
      have b0 : bv ≠ 0 := by rw [← hbv.out, hB.out, ← hx.out]; exact v2.out k hlt
      have hlt2 : (k : Int) < (n : Int) := by omega
      have cy := ip_cell hR1.out.y hky.out hy.out
      clear hR
      go_wp2_with (fail)
      have hRR := hR1.out
      go_region_held3 (fun w' => IpR w w' a1 a2 (some ⟨bx, ox, none⟩) (some ⟨by', oy, none⟩) S B X Y ∧ w'.cell? ⟨by', oy + k, none⟩ = some (.int .u8 (y : Int)))
        (first
          | exact IpR.all (by assumption) hky.out hy.out
          | (go_split_ands; exact IpR.all (by assumption) hky.out hy.out)
          | exact IpR.all (IpR.drew (by assumption)) hky.out hy.out
          | (go_split_ands; exact IpR.all (IpR.drew (by assumption)) hky.out hy.out))
        (first
          | (go_at_call 13; go_split_ands; refine (ip_eval1 (by assumption) m c1 x hSl.out hSb.out xb hmb gv hgv.out).mono ?_; rintro e w7 ⟨rfl, hR7⟩)
          | (go_at_call 39; refine (add_any y gv yb gb _).mono ?_; rintro e w8 ⟨rfl, rfl⟩))
      all_goals
        have hR8 := hidIt hR7
        clear hR7
        have kb : k + 1 ≤ 140737488351232 := by have := nb.out; omega
        go_wp2_with (fail)
        refine (ip_eval2 hR8.out (k + 1) c2 x hBl.out hBb.out xb kb bv hbv.out).mono ?_
        rintro e w9 ⟨rfl, hR9⟩
        replace hR9 := hidIt hR9
        go_wp2_with (fail)
        refine (div_pos (y ^^^ gv) bv (Gf.xor_lt yb gb) bb b0 _).mono ?_
        rintro e w10 ⟨rfl, rfl⟩
        obtain ⟨f, hf⟩ : ∃ f, Hid (Gf.mul (y ^^^ gv) (Gf.inv bv) = f) := ⟨_, rfl⟩
        have fb : f < 256 := by rw [← hf.out]; exact Gf.mul_lt _ (Gf.xor_lt yb gb)
        rw [hf.out]
        go_wp2_with (fail)
        refine (scale_any a2 (k + 1) c2 f B hBl.out hBb.out (by omega) fb _ hR9.out.b).mono ?_
        rintro e w11 ⟨rfl, hrow, hbel⟩
        have hsl : Hid ((scal B f).length = k + 1) := by show _ = _; unfold scal; rw [Pl.fn_len]; exact hBl.out.symm
        have hsc := hidIt (blk_bytes (n := k + 1) (off := 0) hrow (scal B f) hsl.out (by omega) (fun i hi => by unfold scal; rw [fn_getD _ _ _ (by have := hBl.out; omega), Nat.zero_add]))
        have hR10 := hidIt (hR9.out.next hbel)
        clear hrow hbel
        go_wp2_with (fail)
        refine (add2_any a1 _ m (k + 1) c1 (k + 1) S (scal B f) hSl.out hsl.out.symm hSb.out (scal_lt hBb.out) (by omega) (by omega) _ hR10.out.s hsc.out).mono ?_
        rintro e w12 ⟨⟨v12, rfl, hm12⟩, hb12⟩
        obtain ⟨m2, hm2⟩ : ∃ m2, Hid ((Pl.trim (plus S (scal B f))).length = m2) := ⟨_, rfl⟩
        obtain ⟨g12, rfl, _, _, hby12⟩ := hm12.at m2 hm2.out
        have hby := hidIt hby12
        have hR11 := hidIt (hR10.out.next hb12)
        clear hm12 hby12 hb12
        go_wp2_with (fail)
        refine (timesRoot_any (x : Int) _).mono ?_
        rintro e w13 ⟨rfl, rfl⟩
        have hba : Hid (Below w12.heap.size w12 (w12.alloc (.cells #[.int .u8 (x : Int)] 5))) := (Below.refl _ _).alloc (Nat.le_refl _) _
        have hcell : Hid ((w12.alloc (.cells #[.int .u8 (x : Int)] 5)).cell? ⟨w12.heap.size, 0, none⟩ = some (.int .u8 (x : Int))) := by show _ = _; rw [(Blk.new w12 5 #[.int .u8 (x : Int)]).cell]; rfl
        have hR12 := hidIt (hR11.out.next hba.out)
        go_wp2_with (fail)
        refine (timesRoot1_any a2 (k + 1) c2 x w12.heap.size B hBl.out (by omega) hBb.out xb (by omega) _ hR12.out.b hcell.out).mono ?_
        rintro e w14 ⟨⟨v14, rfl, hm14⟩, hb14⟩
        obtain ⟨g14, rfl, _, _, hby14⟩ := hm14.at (k + 1 + 1) (by rw [root_len, ← hBl.out])
        have hR13 := hidIt (hR12.out.next hb14)
        have hS2 : Hid (Bytes w14 (some ⟨g12, 0, none⟩) (Pl.trim (plus S (scal B f)))) := (hby.out.below hba.out).below hb14
        have hB2 := hidIt hby14
        clear hm14 hby14 hb14
        go_wp2_with (fail)
        go_roundw
        case rel =>
          refine ⟨k + 1, m2, _, _, m2, k + 1 + 1, by omega, by go_num, rfl, rfl, ?_, ?_⟩
          · show _ = (Pl.trim _).length
            rw [← hm2.out, ← hS.out, ← hB.out, hx.out, hy.out, hgv.out, hbv.out, hf.out]
          · show IpR _ _ _ _ _ _ (Pl.trim _) (root _ _) _ _
            rw [← hS.out, ← hB.out, hx.out, hy.out, hgv.out, hbv.out, hf.out]
            exact ⟨hS2.out, hB2.out, hR13.out.x, hR13.out.y, hR13.out.bel⟩
        case measure => simp [intOf]; omega
    · obtain rfl : k = n := by omega
      go_wp2
      go_ret2
      exact ⟨⟨_, _, _, rfl, hm.out, hR.out.s⟩, hR.out.bel⟩
end Go.Proofs.Ytcnjcfmgkkghjaa
