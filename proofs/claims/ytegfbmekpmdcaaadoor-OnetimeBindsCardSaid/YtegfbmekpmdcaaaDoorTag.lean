import Derived.Test.YtegfbmekpmdcaaaDoorMacN
namespace Go.Proofs.YtegfbmekpmdcaaaDoor
open Go.RowKit
theorem smWriteP_any (ty : TypeId) (post : List Value) (g : Nat) (ys : List Nat) (a : Option Addr) (n cap : Nat) (xs : List Nat) (hn : n = xs.length) (hx : ∀ x ∈ xs, x < 256) (hbig : ys.length + xs.length ≤ 140737488355328) (hcap : xs.length ≤ cap) (w : World) (hL : Laid w) (hS : SRx ty post w g ys) (h : Bytes w a xs) (hne : 0 < xs.length → ∀ x, a = some x → x.block ≠ g) :
    Calls Tryd.prog 69 #[.pointer (some ⟨g, 0, none⟩), .slice a n cap] w fun e w' => e = .returned (.tuple #[]) ∧ SRx ty post w' g (ys ++ xs) ∧ w.grownBy w' (some g) := by
  subst hn
  go_enter Tryd.func69, Tryd.ntmps69
  go_wp2_with (fail)
  refine (writeP_any ty post g ys a cap xs hx hbig hcap _ hL hS h hne).mono ?_
  rintro e w1 ⟨rfl, h1, h2⟩
  go_wp2_with (fail)
  go_end0
  exact ⟨rfl, h1, h2⟩
set_option maxRecDepth 100000 in
theorem cloneR_any (g o : Nat) (ys bf : List Nat) (w : World) (h2 : 2 + 1 ≤ w.heap.size) (hH : Sh.Held bf ys) (hR : w.rangeAt g o (stC (Sh.hs ys (ys.length / 64)) bf ys.length)) :
    Calls Tryd.prog 74 #[.pointer (some ⟨g, o, none⟩)] w fun e w' => e = .returned (.pointer (some ⟨w.heap.size, 0, none⟩)) ∧ SR w' w.heap.size ys ∧ Below w.heap.size w w' := by
  have hz := zeroSt
  generalize hst : Sh.hs ys (ys.length / 64) = S at *
  have hst2 := hidIt hst
  have hH2 := hidIt hH
  have hb64 := hH.1
  clear hst hH
  go_enter Tryd.func74, Tryd.ntmps74
  go_wp2_with (first | (refine wpList_load_mid rfl 94 _ rfl g o rfl (stC S bf ys.length) _ hR Tryd.underlying94 rfl ((infoSt (stC_size _ _ _ hb64)).trans (by rw [List.size_toArray])) ?_) | (refine wpList_store_row rfl 94 _ _ rfl w.heap.size (stC S bf ys.length).toArray rfl rfl 94 (stC zeroS zeroBf 0).toArray (heap_alloc_new _ _) (infoSt (stC_size _ _ _ hb64)) ?c1 (stC_one _ _ _) ?_))
  case c1 => rw [stC_size _ _ _ zeroBf_len, stC_size _ _ _ hb64]
  go_ret
  refine ⟨rfl, ⟨h2, bf, hH2.out, ?_⟩, ?_⟩
  · rw [hst2.out]; exact setRow_heap _ _ _ _ _ _ (heap_alloc_new _ _)
  · exact below_setRow ((Below.refl _ _).alloc (Nat.le_refl _) _) (Nat.le_refl _) _
theorem macWrite_any (g : Nat) (k ys : List Nat) (a : Option Addr) (n cap : Nat) (xs : List Nat) (hn : n = xs.length) (hx : ∀ x ∈ xs, x < 256) (hbig : ys.length + xs.length ≤ 140737488355000) (hcap : xs.length ≤ cap) (w : World) (hL : LaidH w) (hM : MR w g k ys) (h : Bytes w a xs) (hne : 0 < xs.length → ∀ x, a = some x → x.block ≠ g) :
    Calls Tryd.prog 60 #[.pointer (some ⟨g, 0, none⟩), .slice a n cap] w fun e w' => e = .returned (.tuple #[]) ∧ MR w' g k (ys ++ xs) ∧ w.grownBy w' (some g) := by
  subst hn
  obtain ⟨bfo, hH, hS⟩ := hM.ex
  have hH2 := hidIt hH
  clear hH
  go_enter Tryd.func60, Tryd.ntmps60
  go_wp2_with (fail)
  refine (smWriteP_any _ _ g (Hm.pad k 54 ++ ys) a _ cap xs rfl hx (by rw [List.length_append, Hm.pad_len]; omega) hcap _ hL.l hS h hne).mono ?_
  rintro e w1 ⟨rfl, h1, h2⟩
  go_wp2_with (fail)
  go_end0
  exact ⟨rfl, ⟨bfo, hH2.out, by rw [← List.append_assoc]; exact h1⟩, h2⟩
theorem mac_outer {w : World} {g : Nat} {s : Sh.St} {bf : List Nat} {n : Nat} {cs : List Value} (hb : bf.length = 64) (h : Blk w g 102 (stP s bf n cs).toArray) : w.rangeAt g 73 cs := fun j v hv => by
  rw [h.cell, List.getElem?_toArray, stP_stC, List.getElem?_append_right (by rw [stC_len _ _ _ hb]; omega), stC_len _ _ _ hb, show 73 + j - 73 = j by omega]
  exact hv
set_option maxRecDepth 100000 in
set_option maxHeartbeats 2000000 in
theorem macSum_any (g : Nat) (k ys : List Nat) (hbig : ys.length ≤ 140737488354000) (w : World) (hL : LaidH w) (hM : MR w g k ys) :
    Calls Tryd.prog 61 #[.pointer (some ⟨g, 0, none⟩)] w fun e w' => e = .returned (.string (str (Sh.sum (Hm.pad k 92 ++ Sh.sum (Hm.pad k 54 ++ ys))))) ∧ Below w.heap.size w w' := by
  obtain ⟨bfo, hH, hS⟩ := hM.ex
  obtain ⟨bf, hH1, hB⟩ := hS.ex
  have hR := mac_outer hH1.1 hB
  have hglt := hB.lt
  go_enter Tryd.func61, Tryd.ntmps61
  go_wp2_with (fail)
  refine (cloneR_any g 73 (Hm.pad k 92) bfo _ hL.two hH hR).mono ?_
  rintro e w1 ⟨rfl, hs1, hb1⟩
  have L1 := hL.below hb1 hL.two
  have S1 := hS.far (hb1.block g hglt)
  clear hB hR hH hH1 hS
  go_wp2_with (fail)
  refine (smSumP_any _ _ g (Hm.pad k 54 ++ ys) (by rw [List.length_append, Hm.pad_len]; omega) _ L1.l S1).mono ?_
  rintro e w2 ⟨rfl, hb2⟩
  have H2 := below_then hb1 hb2
  have L2 := hL.below H2 hL.two
  have s2 := hs1.below hb2
  obtain ⟨D, hD⟩ : ∃ D, Hid (Sh.sum (Hm.pad k 54 ++ ys) = D) := ⟨_, rfl⟩
  have hD32 : Hid (D.length = 32) := by rw [← hD.out]; exact Sh.sum_len _
  have hDlt : Hid (∀ x ∈ D, x < 256) := by rw [← hD.out]; exact Sh.sum_lt _
  obtain ⟨st, hst⟩ : ∃ st, Hid (str D = st) := ⟨_, rfl⟩
  have hof : Hid (ofStr st = D) := by show _ = _; rw [← hst.out, ofStr_str _ hDlt.out]
  obtain ⟨c, w3, hcv, hby, hb3, hc3, hlt3⟩ := conv_to st w2
  rw [hof.out] at hby
  have hsz : Hid (st.size = D.length) := by show _ = _; rw [← hof.out, ofStr_len]
  have H3 := below_then H2 hb3
  have L3 := hL.below H3 hL.two
  have s3 := s2.below hb3
  have q2 := H2.size
  have q1 := hs1.lt
  have hq := hb2.size
  rw [hD.out, hst.out]
  clear hs1 s2 hb1 hb2 hb3 L1 L2 S1 H2
  go_wp2_with (fail)
  refine (smWrite_at w.heap.size (Hm.pad k 92) _ st.size c D hsz.out hDlt.out (by rw [Hm.pad_len, hD32.out]; decide) (by have := hsz.out; omega) _ L3.l s3 hby (fun _ x hx => by cases hx; show w2.heap.size ≠ w.heap.size; omega)).mono ?_
  rintro e w4 ⟨rfl, hs4, hg4⟩
  have H4 := SR.grown_new H3 hg4 (Nat.le_refl _)
  have L4 := hL.below H4 hL.two
  clear hcv hby s3 L3 H3
  go_wp2_with (fail)
  refine (smSum_any w.heap.size _ (by rw [List.length_append, Hm.pad_len, hD32.out]; decide) _ L4.l hs4).mono ?_
  rintro e w5 ⟨rfl, hb5⟩
  go_wp2_with (fail)
  go_ret
  exact ⟨by rw [hD.out]; rfl, below_then H4 hb5⟩
set_option maxRecDepth 100000 in
set_option maxHeartbeats 2000000 in
theorem tag_any (s : ByteArray) (k : List Nat) (hk : Hid (ofStr s = k)) (hkb : k.length ≤ 140737488355000) (a : Option Addr) (n cap : Nat) (xs : List Nat) (hn : n = xs.length) (hx : ∀ x ∈ xs, x < 256) (hbig : xs.length ≤ 140737488354000) (hcap : xs.length ≤ cap) (w : World) (hL : LaidH w) (h : Bytes w a xs) :
    Calls Tryd.prog 46 #[.string s, .slice a n cap] w fun e w' => e = .returned (.string (str (Hm.tag k xs))) ∧ Below w.heap.size w w' := by
  subst hn
  have hblk := hidIt h.blk
  go_enter Tryd.func46, Tryd.ntmps46
  go_wp2_with (fail)
  refine (newMac_any s k hk hkb _ hL).mono ?_
  rintro e w1 ⟨g, hg, rfl, hM, hb1⟩
  have L1 := hL.below hb1 hL.two
  have y1 := h.below hb1
  go_wp2_with (fail)
  refine (macWrite_any g (Hm.key k) [] a _ cap xs rfl hx (by simp only [List.length_nil]; omega) hcap _ L1 hM y1 (fun h0 x hx => by have := hblk.out h0 x hx; omega)).mono ?_
  rintro e w2 ⟨rfl, hM2, hg2⟩
  have H2 := SR.grown_new hb1 hg2 hg
  have L2 := hL.below H2 hL.two
  rw [List.nil_append] at hM2
  clear y1 hM hg2
  go_wp2_with (fail)
  refine (macSum_any g (Hm.key k) xs hbig _ L2 hM2).mono ?_
  rintro e w3 ⟨rfl, hb3⟩
  go_wp2_with (fail)
  go_ret
  exact ⟨rfl, below_then H2 hb3⟩
end Go.Proofs.YtegfbmekpmdcaaaDoor
