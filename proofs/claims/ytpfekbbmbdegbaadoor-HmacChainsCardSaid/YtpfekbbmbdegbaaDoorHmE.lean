import Derived.Test.YtpfekbbmbdegbaaDoorHmF
namespace Go.Proofs.YtpfekbbmbdegbaaDoor
open Go.RowKit
theorem expand_arg (s t : ByteArray) (z : Int) (h : s.size < 32 ∨ z < 0) (w : World) :
    Calls Tryd.prog 31 #[.string s, .string t, .int .i64 z] w fun e w' => e = .returned (.tuple #[.string { data := #[] }, .int .i64 1]) ∧ Below w.heap.size w w' := by
  by_cases hs : s.size < 32
  · have t0 : (s.size : Int) < 32 := by omega
    go_enter Tryd.func31, Tryd.ntmps31
    go_wp2
    go_ret2
    exact ⟨rfl, Below.refl _ _⟩
  · have t0 : ¬ (s.size : Int) < 32 := by omega
    have t1 : z < 0 := by omega
    go_enter Tryd.func31, Tryd.ntmps31
    go_wp2
    go_ret2
    exact ⟨rfl, Below.refl _ _⟩
theorem expand_large (s t : ByteArray) (z : Int) (h : ¬ s.size < 32) (hz : 8160 < z) (w : World) :
    Calls Tryd.prog 31 #[.string s, .string t, .int .i64 z] w fun e w' => e = .returned (.tuple #[.string { data := #[] }, .int .i64 2]) ∧ Below w.heap.size w w' := by
  have t0 : ¬ (s.size : Int) < 32 := by omega
  have t1 : ¬ z < 0 := by omega
  go_enter Tryd.func31, Tryd.ntmps31
  go_wp2
  go_ret2
  exact ⟨rfl, Below.refl _ _⟩
theorem sliceH (a : Option Addr) (ha : a = none ∨ ∃ b off, a = some ⟨b, off, none⟩) (n cap hi : Nat) (h2 : hi ≤ cap) (W : World) :
    (Instr.slice 28 (.slice a n cap) none (some (.int .i64 (hi : Int))) none).run Tryd.prog W = .ok (.slice a hi cap) W := by
  have h := run_slice_h W 28 a n cap (P := Tryd.prog) (by kernel_rfl) .i64 (hi : Int) (by omega) (by omega)
  rw [h]
  have e2 : (sizeOf (Tryd.prog.elem 28)).run Tryd.prog W = .ok 1 W := by kernel_rfl
  rw [e2]
  simp only [Result.andThen, sliced, Int.toNat_natCast]
  rcases ha with rfl | ⟨b, off, rfl⟩
  · simp
  · by_cases hc : cap = 0
    · simp [hc]
    · have hadd : (⟨b, off, none⟩ : Addr).add 0 = ⟨b, off, none⟩ := by unfold Addr.add; split <;> simp_all
      simp [hadd]
theorem own_below {w w' : World} {base size n : Nat} {e : TypeId} {v : Value} {xs : List Value} (h : w.ownsRow base e size v n xs) (hb : Below w.heap.size w w') : w'.ownsRow base e size v n xs := h.kept (g_below (r := none) hb) (Classical.em _)
theorem Bytes.take {w : World} {a : Option Addr} {bs : List Nat} (h : Bytes w a bs) (m : Nat) : Bytes w a (bs.take m) := fun i hi => by
  have hi2 : i < m ∧ i < bs.length := by rw [List.length_take] at hi; omega
  obtain ⟨b, off, h2, h3⟩ := h i hi2.2
  refine ⟨b, off, h2, ?_⟩
  rw [h3, List.getD_eq_getElem?_getD, List.getD_eq_getElem?_getD, List.getElem?_take, if_pos hi2.1]
def sln : Value → Nat
  | .slice _ n _ => n
  | _ => 0
theorem one_bytes (w : World) (z : Int) (y : Nat) (h : z = (y : Int)) : Bytes (w.alloc (.cells #[.int .u8 z] 5)) (some ⟨w.heap.size, 0, none⟩) [y] := by
  subst h
  intro i hi
  obtain rfl : i = 0 := by simpa using hi
  exact ⟨_, 0, rfl, by rw [Nat.zero_add, cell_of_row _ _ _ _ _ _ (heap_alloc_new w _)]; rfl⟩
set_option maxRecDepth 100000 in
set_option maxHeartbeats 4000000 in
theorem expand_any (s t : ByteArray) (k info : List Nat) (hk : Hid (ofStr s = k)) (hi : Hid (ofStr t = info)) (hk32 : 32 ≤ k.length) (hkb : k.length ≤ 140737488355000) (hib : info.length ≤ 140737488000000) (m : Nat) (hm : m ≤ 8160) (w : World) (hL : LaidH w) :
    Calls Tryd.prog 31 #[.string s, .string t, .int .i64 (m : Int)] w fun e w' => e = .returned (.tuple #[.string (str (Hm.expand k info m)), .int .i64 0]) ∧ Below w.heap.size w w' := by
  have hsz : s.size = k.length := by rw [← hk.out, ofStr_len]
  have t0 : ¬ (s.size : Int) < 32 := by omega
  have t1 : ¬ (m : Int) < 0 := by omega
  have t2 : ¬ (8160 : Int) < (m : Int) := by omega
  obtain ⟨c, w1, hcv, hby, hb1, hc1, hlt1⟩ := conv_to t w
  rw [hi.out] at hby
  have htz : Hid (t.size = info.length) := by show _ = _; rw [← hi.out, ofStr_len]
  have hil : Hid (∀ x ∈ info, x < 256) := by rw [← hi.out]; exact ofStr_lt t
  clear hsz
  go_enter Tryd.func31, Tryd.ntmps31
  go_wp2
  clear t0 t1 t2 hcv
  have hown0 : w1.ownsRow w1.heap.size 5 1 (.slice none 0 0) 0 (vals []) := ⟨by simp [vals], .inl ⟨rfl, rfl⟩⟩
  have L1 := hL.below hb1 hL.two
  have hblk : w.heap.size < w1.heap.size := hlt1
  go_loopw [9, 10, 11, 12] (fun tg v i _ wr => ∃ (j nn i0 cap : Nat) (a : Option Addr) (st : ByteArray), j ≤ 255 ∧ Hid (nn = 32 * j) ∧ Hid (i0 = (j + 1) % 256) ∧ nn < m + 32 ∧ i = .int .u8 (i0 : Int) ∧ tg = .string st ∧ Hid (ofStr st = Hm.T k info j) ∧ v = .slice a nn cap ∧ wr.ownsRow w1.heap.size 5 1 v nn (vals (Hm.ex k info j)) ∧ Below w1.heap.size w1 wr) (fun _ v _ _ _ => m + 32 - sln v)
  case atStart => exact ⟨0, 0, 1, 0, none, { data := #[] }, by omega, rfl, rfl, by omega, rfl, rfl, rfl, rfl, hown0, Below.refl _ _⟩
  case round =>
    obtain ⟨j, nn, i0, cap, a, st, hj, hnn, hi0, hjm, rfl, rfl, hst, rfl, hown, hb⟩ := hrel
    have Lr := L1.below hb L1.two
    have hown1 := hidIt hown
    clear hown
    by_cases hlt : nn < m
    · have t3 : (nn : Int) < (m : Int) := by omega
      have hTl := hidIt (Hm.T_len k info j)
      have hTt := hidIt (Hm.T_lt k info j)
      obtain ⟨D, hD⟩ : ∃ D, Hid (Hm.T k info j = D) := ⟨_, rfl⟩
      rw [hD.out] at hst hTl hTt
      have hDsz : Hid (st.size = D.length) := by show _ = _; rw [← hst.out, ofStr_len]
      go_wp2_with (fail)
      refine (newMac_any s k hk hkb _ Lr).mono ?_
      rintro e w2 ⟨g, hg, rfl, hM, hb2⟩
      have L2 := Lr.below hb2 Lr.two
      have H2 := below_then hb hb2
      obtain ⟨c3, w3, hcv, hby3, hb3, hc3, hlt3⟩ := conv_to st w2
      rw [hst.out] at hby3
      have L3 := L2.below hb3 L2.two
      have H3 := below_then H2 hb3
      have M3 := hM.below hb3
      have hglt := hM.lt
      have y0 := hidIt hb.size
      have y2 := hidIt H2.size
      clear hM t3
      go_wp2_with (fail)
      refine (macWrite_any g (Hm.key k) [] _ st.size c3 D hDsz.out hTt.out (by simp only [List.length_nil]; have := hTl.out; omega) (by have := hDsz.out; omega) _ L3 M3 hby3 (fun _ x hx => by cases hx; show w2.heap.size ≠ g; omega)).mono ?_
      rintro e w4 ⟨rfl, M4, hg4⟩
      rw [List.nil_append] at M4
      have Q4 : Below wr.heap.size wr w4 := SR.grown_new (below_then hb2 hb3) hg4 hg
      have H4 := below_then hb Q4
      have L4 := Lr.below Q4 Lr.two
      have b4 : Bytes w4 (some ⟨w.heap.size, 0, none⟩) info := hby.below H4
      clear hcv hby3 M3 L3 hg4 L2
      go_wp2_with (fail)
      refine (macWrite_any g (Hm.key k) D _ t.size c info htz.out hil.out (by have := hTl.out; omega) (by have := htz.out; omega) _ L4 M4 b4 (fun _ x hx => by cases hx; show w.heap.size ≠ g; have := y0.out; omega)).mono ?_
      rintro e w5 ⟨rfl, M5, hg5⟩
      have Q5 : Below wr.heap.size wr w5 := SR.grown_new Q4 hg5 hg
      clear M4 b4 L4 hg5 Q4 H4
      go_wp2_with (fail)
      have Q6 : Below wr.heap.size wr (w5.alloc (.cells #[.int .u8 (i0 : Int)] 5)) := Q5.alloc Q5.size _
      have L6 := Lr.below Q6 Lr.two
      have M6 := M5.below ((Below.refl _ _).alloc (Nat.le_refl _) (.cells #[.int .u8 (i0 : Int)] 5))
      have b6 := one_bytes w5 (i0 : Int) i0 rfl
      have hglt5 := M5.lt
      have hi256 : i0 < 256 := by have := hi0.out; omega
      clear M5 Q5
      refine (macWrite_any g (Hm.key k) (D ++ info) _ 1 1 [i0] rfl (by intro x hx; simp at hx; omega) (by rw [List.length_append]; simp only [List.length_singleton]; have := hTl.out; omega) (Nat.le_refl _) _ L6 M6 b6 (fun _ x hx => by cases hx; show w5.heap.size ≠ g; omega)).mono ?_
      rintro e w7 ⟨rfl, M7, hg7⟩
      have Q7 : Below wr.heap.size wr w7 := SR.grown_new Q6 hg7 hg
      have L7 := Lr.below Q7 Lr.two
      clear M6 b6 L6 hg7 Q6
      go_wp2_with (fail)
      refine (macSum_any g (Hm.key k) (D ++ info ++ [i0]) (by rw [List.length_append, List.length_append]; simp only [List.length_singleton]; have := hTl.out; omega) _ L7 M7).mono ?_
      rintro e w8 ⟨rfl, hb8⟩
      have Q8 := below_then Q7 hb8
      have hT1 : Hid (Sh.sum (Hm.pad (Hm.key k) 92 ++ Sh.sum (Hm.pad (Hm.key k) 54 ++ (D ++ info ++ [i0]))) = Hm.T k info (j + 1)) := by
        show _ = Hm.tag _ _
        rw [hD.out, ← hi0.out]; rfl
      rw [hT1.out]
      obtain ⟨E, hE⟩ : ∃ E, Hid (Hm.T k info (j + 1) = E) := ⟨_, rfl⟩
      have hE32 : Hid (E.length = 32) := by rw [← hE.out]; exact Hm.tag_len _ _
      have hEl : Hid (∀ x ∈ E, x < 256) := by rw [← hE.out]; exact Hm.T_lt _ _ _
      obtain ⟨st2, hst2⟩ : ∃ s2, Hid (str E = s2) := ⟨_, rfl⟩
      have hof2 : Hid (ofStr st2 = E) := by show _ = _; rw [← hst2.out, ofStr_str _ hEl.out]
      have hsz2 : Hid (st2.size = 32) := by show _ = _; rw [← ofStr_len, hof2.out, hE32.out]
      rw [hE.out, hst2.out]
      have hown8 := hidIt (own_below hown1.out Q8)
      obtain ⟨l, hlq⟩ : ∃ l, Hid (Hm.ex k info j = l) := ⟨_, rfl⟩
      rw [hlq.out] at hown8
      have hll : Hid (nn = l.length) := by show _ = _; rw [← hlq.out, Hm.ex_len, hnn.out]
      have hex : Hid (Hm.ex k info (j + 1) = l ++ E) := by show Hm.ex k info j ++ _ = _; rw [hlq.out, hE.out]
      have hwz : w1.heap.size ≤ w8.heap.size := by have := Q8.size; have := y0.out; omega
      have F8 := below_then hb Q8
      have F1 : ∀ q, Value.ownBlock (.slice a nn cap) = some q → w1.heap.size ≤ q := fun q hq => (hown8.out.lt q hq).1
      clear hown1 M7 L7 Q7 hb8
      go_wp2_with (at_builtin; refine wpList_append_str _ rfl _ _ rfl w1.heap.size _ nn l rfl hll.out hown8.out st2 rfl (by rw [hsz2.out]; omega) hwz ?_)
      intro a9 c9 w9 hown9 hg9
      have F9 : Below w1.heap.size w1 w9 := F8.grown hg9 F8.size F1
      rw [hof2.out] at hown9
      try simp only [List.length_append] at hown9
      try rw [hof2.out]
      try simp only [List.length_append]
      have hlen9 : Hid (l.length + E.length = nn + 32) := by show _ = _; rw [hE32.out, ← hll.out]
      rw [hlen9.out] at hown9
      rw [hlen9.out]
      have hown10 := hidIt hown9
      obtain ⟨i1, hi1⟩ : ∃ i1, Hid (i1 = (j + 2) % 256) := ⟨_, rfl⟩
      have e5 : IntKind.u8.wrap ((i0 : Int) + 1) = (i1 : Int) := by have := hi0.out; have := hi1.out; unfold IntKind.wrap; simp [IntKind.bits, IntKind.signed]; omega
      obtain ⟨n9, hn9⟩ : ∃ n9, Hid (nn + 32 = n9) := ⟨_, rfl⟩
      rw [hn9.out] at hown10 ⊢
      clear hown9 hown8 hg9 F1 F8 hlen9
      go_wp2
      go_roundw
      case rel => exact ⟨j + 1, n9, i1, c9, a9, st2, by have := hnn.out; omega, by have := hnn.out; have := hn9.out; show _ = _; omega, by have := hi1.out; exact hi1, by have := hn9.out; omega, by go_num, rfl, by show _ = _; rw [hof2.out, hE.out], rfl, by rw [hex.out]; exact hown10.out, F9⟩
      case measure => have := hn9.out; simp [sln]; omega
    · have hexl : Hid ((Hm.ex k info j).length = nn) := by show _ = _; rw [Hm.ex_len, hnn.out]
      obtain ⟨ha, hcap⟩ : (a = none ∨ ∃ b off, a = some ⟨b, off, none⟩) ∧ m ≤ cap := by
        rcases hown1.out.2 with ⟨h0, h0'⟩ | ⟨b, cap', cur, hv, hb0, hgg, hle, _⟩
        · simp only [Value.slice.injEq] at h0
          exact ⟨.inl h0.1, by omega⟩
        · simp only [Value.slice.injEq, true_and] at hv
          obtain ⟨rfl, rfl⟩ := hv
          exact ⟨.inr ⟨b, 0, rfl⟩, by omega⟩
      obtain ⟨a2, c2, hv, hby2, _⟩ := owned_bytes hown1.out hexl.out.symm
      simp only [Value.slice.injEq] at hv
      obtain ⟨rfl, _, rfl⟩ := hv
      have hX : Hid ((Hm.ex k info j).take m = Hm.expand k info m) := Hm.expand_of _ _ _ _ (by have := hnn.out; omega)
      have hby3 := hby2.take m
      rw [hX.out] at hby3
      have hs1 := fun W => sliceH a ha nn cap m hcap W
      have hcv := conv_str wr a m cap (Hm.expand k info m) (Hm.expand_len k info m).symm hby3
      obtain ⟨so, hso⟩ : ∃ so, Hid (str (Hm.expand k info m) = so) := ⟨_, rfl⟩
      rw [hso.out] at hcv
      have t3 : ¬ (nn : Int) < (m : Int) := by omega
      have hfin := below_then hb1 hb
      clear hown1 hby2 hby3 ha
      go_wp2
      go_ret2
      exact ⟨by rw [hso.out]; rfl, hfin⟩
end Go.Proofs.YtpfekbbmbdegbaaDoor
