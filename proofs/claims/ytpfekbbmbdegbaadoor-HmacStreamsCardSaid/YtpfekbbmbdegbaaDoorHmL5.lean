import Derived.Test.YtpfekbbmbdegbaaDoorHmL1
import Derived.Test.YtpfekbbmbdegbaaDoorFrame
namespace Go.Proofs.YtpfekbbmbdegbaaDoor
open Go.RowKit
def catB (bs : Nat → List Nat) : Nat → List Nat
  | 0 => []
  | j + 1 => catB bs j ++ bs j
theorem catB_lt (bs : Nat → List Nat) (n : Nat) (h : ∀ i, i < n → ∀ x ∈ bs i, x < 256) (j : Nat) (hj : j ≤ n) : ∀ x ∈ catB bs j, x < 256 := by
  induction j with
  | zero => intro x hx; simp [catB] at hx
  | succ j ih =>
    intro x hx
    rcases List.mem_append.1 (show x ∈ catB bs j ++ bs j from hx) with h1 | h1
    · exact ih (by omega) x h1
    · exact h j (by omega) x h1
theorem own_cap {w : World} {base n c : Nat} {a : Option Addr} {l : List Nat} (h : w.ownsRow base 5 1 (.slice a n c) n (vals l)) : n ≤ c := by
  rcases h.2 with ⟨h0', h1'⟩ | ⟨b, cap', cur, hv, hb0, hgg, hle, _⟩
  · omega
  · simp only [Value.slice.injEq, true_and] at hv
    obtain ⟨rfl, rfl⟩ := hv
    exact hle
theorem macSumT_any (g : Nat) (k ys : List Nat) (hbig : ys.length ≤ 140737488354000) (w : World) (hL : LaidH w) (hM : MR w g (Hm.key k) ys) :
    Calls Tryd.prog 26 #[.pointer (some ⟨g, 0, none⟩)] w fun e w' => e = .returned (.string (str (Hm.tag k ys))) ∧ Below w.heap.size w w' := macSum_any g (Hm.key k) ys hbig w hL hM
def sln5 : Value → Nat
  | .int _ z => z.toNat
  | _ => 0
set_option maxRecDepth 100000 in
set_option maxHeartbeats 4000000 in
theorem streams_walk (a1 : Option Addr) (len1 cap1 : Nat) (A : Nat → Option Addr) (L C : Nat → Nat) (bs : Nat → List Nat) (s : ByteArray) (w : World) (hL : LaidH w) (_h0 : s.size ≤ maxLen) (hR : RowsB w a1 len1 A L C bs) (hlc : len1 ≤ cap1) :
    Calls Tryd.prog 5 #[.string s, .slice a1 len1 cap1] w fun e w' => e = .returned (.bool true) ∧ Below w.heap.size w w' := by
  clear _h0
  by_cases hbig : 200 < s.size ∨ 12 < len1
  · clear hR
    go_enter Tryd.func5, Tryd.ntmps5
    go_wp2_with (fail)
    refine (awakeH_any _ hL).mono ?_
    rintro e w1 ⟨rfl, hb1⟩
    by_cases h0 : (200 : Int) < (s.size : Int)
    · go_wp2_with (fail)
      go_ret
      exact ⟨rfl, hb1⟩
    · have t1 : (12 : Int) < (len1 : Int) := by omega
      go_wp2_with (fail)
      go_ret
      exact ⟨rfl, hb1⟩
  have t0 : ¬ (200 : Int) < (s.size : Int) := by omega
  have t1 : ¬ (12 : Int) < (len1 : Int) := by omega
  obtain ⟨k, hk⟩ : ∃ k, Hid (ofStr s = k) := ⟨_, rfl⟩
  have hks : Hid (s.size = k.length) := by show _ = _; rw [← hk.out, ofStr_len]
  have l0 : k.length ≤ 200 := by have := hks.out; omega
  have l1 : len1 ≤ 12 := by omega
  have hR2 := hidIt hR
  clear hbig hR
  go_enter Tryd.func5, Tryd.ntmps5
  go_wp2_with (fail)
  refine (awakeH_any _ hL).mono ?_
  rintro e w1 ⟨rfl, hb1⟩
  have L1 := hL.below hb1 hL.two
  go_wp2_with (fail)
  refine (newMac_any s k hk (by omega) _ L1).mono ?_
  rintro e w2 ⟨g, hg, rfl, hM, hb2⟩
  have H2 := below_then hb1 hb2
  have hgw := hidIt (Nat.le_trans hb1.size hg)
  have hglt := hidIt hM.lt
  have hb3 : Below w2.heap.size w2 (w2.alloc (.cells #[] 5)) := (Below.refl _ _).alloc (Nat.le_refl _) _
  have hM3 := hM.below hb3
  have H3 := below_then H2 hb3
  have L3 := hL.below H3 hL.two
  have hown : (w2.alloc (.cells #[] 5)).ownsRow w2.heap.size 5 1 (.slice (some ⟨w2.heap.size, 0, none⟩) 0 0) 0 (vals []) := World.ownsRow_made w2 #[] 0 (Nat.le_refl _) (by unfold maxLen; omega) rfl
  have hown3 := hidIt hown
  clear t0 t1 hown hM hb2 L1
  go_wp2_with (fail)
  obtain ⟨w3, hw3⟩ : ∃ w3, Hid (w2.alloc (.cells #[] 5) = w3) := ⟨_, rfl⟩
  rw [hw3.out] at hM3 H3 L3 hown3 hb3 ⊢
  refine (macSumT_any g k [] (by decide) _ L3 hM3).mono ?_
  rintro e w4 ⟨rfl, hb4⟩
  have H4 := below_then H3 hb4
  have L4 := hL.below H4 hL.two
  obtain ⟨st, hst⟩ : ∃ st, Hid (str (Hm.tag k []) = st) := ⟨_, rfl⟩
  have v1 : (st.toList == st.toList) = true := by simp
  rw [hst.out]
  go_wp2_with (fail)
  refine (tag_any s k hk (by omega) none 0 0 [] rfl (by decide) (by decide) (by decide) _ L4 (fun i hi => by simp at hi)).mono ?_
  rintro e w5 ⟨rfl, hb5⟩
  rw [hst.out]
  have H5 := below_then H4 hb5
  have b45 := below_then hb4 hb5
  have hM5 := hM3.below b45
  have hown5 := hidIt (own_below hown3.out b45)
  clear hM3 H3 L3 hown3 hb3 hb4 hb5 L4 H4 b45 v1 hst hw3
  go_wp2_with (fail)
  go_loopw [7, 6] (fun i v wr => ∃ (j nn c : Nat) (a : Option Addr), j ≤ len1 ∧ nn ≤ 150 * j ∧ i = .int .i64 (j : Int) ∧ v = .slice a nn c ∧ Hid (nn = (catB bs j).length) ∧ wr.ownsRow w2.heap.size 5 1 v nn (vals (catB bs j)) ∧ MR wr g (Hm.key k) (catB bs j) ∧ Below w.heap.size w wr ∧ w2.heap.size ≤ wr.heap.size) (fun i _ _ => len1 - sln5 i)
  case atStart => exact ⟨0, 0, 0, some ⟨w2.heap.size, 0, none⟩, by omega, by omega, rfl, rfl, rfl, hown5.out, hM5, H5, by have := hM5.lt; have := hown5.out; exact Nat.le_of_lt (this.lt w2.heap.size rfl).2⟩
  case round =>
    obtain ⟨j, nn, c, a, hj, hnn, rfl, rfl, hcl, hown, hM, hb, hwz⟩ := hrel
    have hownR := hidIt hown
    clear hown hM5 H5 hown5
    by_cases hlt : j < len1
    · obtain ⟨b, off, rfl, hc0⟩ := hR2.out.top j hlt
      have hrow := hidIt (hR2.out.row j hlt)
      have hc := (hb.cell (p := ⟨b, off + j, none⟩) (bytes_lt hc0)).trans hc0
      have i1 : (j : Int) < (len1 : Int) := by omega
      have i2 : (j : Int) < (cap1 : Int) := by omega
      obtain ⟨Lj, hLj⟩ : ∃ l, Hid (L j = l) := ⟨_, rfl⟩
      obtain ⟨Cj, hCj⟩ : ∃ l, Hid (C j = l) := ⟨_, rfl⟩
      obtain ⟨Aj, hAj⟩ : ∃ l, Hid (A j = l) := ⟨_, rfl⟩
      obtain ⟨xs, hxs⟩ : ∃ l, Hid (bs j = l) := ⟨_, rfl⟩
      rw [hLj.out, hCj.out, hAj.out] at hc hrow
      rw [hxs.out] at hrow
      have hln : Hid (Lj = xs.length) := hrow.out.len
      clear hc0
      by_cases hbig : 150 < Lj
      · have t3 : (150 : Int) < (Lj : Int) := by omega
        go_wp2_with (fail)
        go_ret
        exact ⟨rfl, hb⟩
      · have t3 : ¬ (150 : Int) < (Lj : Int) := by omega
        have Lr := hL.below hb hL.two
        have hby := hidIt (hrow.out.bytes.below hb)
        have hne := hidIt (fun (h0 : 0 < xs.length) x (hx : Aj = some x) => (by have := hrow.out.blk h0 x hx; have := hgw.out; omega : x.block ≠ g))
        obtain ⟨X, hX⟩ : ∃ X, Hid (catB bs j = X) := ⟨_, rfl⟩
        rw [hX.out] at hM hownR hcl
        have hnext : Hid (catB bs (j + 1) = X ++ xs) := by show catB bs j ++ bs j = _; rw [hX.out, hxs.out]
        have hglt2 := hM.lt
        go_wp2_with (fail)
        refine (macWrite_any g (Hm.key k) X Aj Lj Cj xs hln.out hrow.out.lt (by have := hcl.out; have := hln.out; omega) hrow.out.lecap _ Lr hM hby.out hne.out).mono ?_
        rintro e w6 ⟨rfl, hM6, hg6⟩
        have H6 : Below w.heap.size w w6 := hb.grown hg6 hb.size (fun q hq => by cases hq; exact hgw.out)
        have hc6 : w6.cell? ⟨b, off + j, none⟩ = some (.slice Aj Lj Cj) := (H6.cell (p := ⟨b, off + j, none⟩) (by
            obtain ⟨b', off', e1, e2⟩ := hR2.out.top j hlt
            cases e1
            exact bytes_lt e2)).trans ((hb.cell (p := ⟨b, off + j, none⟩) (by
            obtain ⟨b', off', e1, e2⟩ := hR2.out.top j hlt
            cases e1
            exact bytes_lt e2)).symm.trans hc)
        have hown6 := hidIt (hownR.out.kept hg6 (.inr (fun e => by have := (hownR.out.lt g e).1; have := hglt.out; omega)))
        have hby6 := hidIt (hrow.out.bytes.below H6)
        have hz6 : w2.heap.size ≤ w6.heap.size := Nat.le_trans hwz hg6.size
        have F6 : ∀ q, Value.ownBlock (.slice a nn c) = some q → w2.heap.size ≤ q := fun q hq => (hown6.out.lt q hq).1
        clear hownR hby hM hg6 hc Lr t3
        go_wp2_with (at_builtin; refine wpList_append_bytes _ rfl _ _ rfl w2.heap.size _ nn (vals X) rfl hown6.out Aj Lj Cj xs rfl hln.out hby6.out hrow.out.nil (by have := hln.out; omega) hz6 ?_)
        intro v7 w7 hown7 hg7
        have H7 : Below w.heap.size w w7 := H6.grown hg7 H6.size (fun q hq => by have := F6 q hq; have := H2.size; omega)
        have hM7 : MR w7 g (Hm.key k) (X ++ xs) := hM6.far (hg7.block g hM6.lt (fun e => by have := F6 g e.symm; have := hglt.out; omega))
        have hz7 := Nat.le_trans hz6 hg7.size
        obtain ⟨Y, hY⟩ : ∃ Y, Hid (X ++ xs = Y) := ⟨_, rfl⟩
        obtain ⟨n8, hn8⟩ : ∃ n8, Hid (nn + xs.length = n8) := ⟨_, rfl⟩
        have hYlen : Hid (n8 = Y.length) := by show _ = _; rw [← hn8.out, ← hY.out, List.length_append, hcl.out]
        have hown8 := owned_append hown7 rfl
        rw [hY.out, hn8.out] at hown8
        obtain ⟨a8, c8, hv8, hby8, _⟩ := owned_bytes hown8 hYlen.out
        rw [← hYlen.out] at hv8
        subst hv8
        rw [hY.out] at hM7 hnext
        have hYl : Y.length ≤ 150 * (j + 1) := by have := hYlen.out; have := hn8.out; have := hln.out; omega
        have hY256 : Hid (∀ x ∈ Y, x < 256) := by rw [← hnext.out]; exact catB_lt bs len1 (fun i hi => (hR2.out.row i hi).lt) (j + 1) (by omega)
        have hc8 := hidIt (own_cap hown8)
        have hown9 := hidIt hown8
        have hby9 := hidIt hby8
        have L7 := hL.below H7 hL.two
        obtain ⟨st, hst⟩ : ∃ st, Hid (str (Hm.tag k Y) = st) := ⟨_, rfl⟩
        have v1 : (st.toList == st.toList) = true := by simp
        clear hown7 hown8 hby8 hg7 F6 H6 hown6 hby6 hc6 hM6
        go_wp2_with (fail)
        refine (macSumT_any g k Y (by omega) _ L7 hM7).mono ?_
        rintro e w10 ⟨rfl, hb10⟩
        have H10 := below_then H7 hb10
        rw [hst.out]
        go_wp2_with (fail)
        refine (tag_any s k hk (by omega) a8 n8 c8 Y hYlen.out hY256.out (by omega) (by have := hc8.out; have := hYlen.out; omega) _ (hL.below H10 hL.two) (hby9.out.below hb10)).mono ?_
        rintro e w11 ⟨rfl, hb11⟩
        have H11 := below_then H10 hb11
        have B11 := below_then hb10 hb11
        have M11 := hM7.below B11
        rw [hst.out]
        go_wp2_with (fail)
        refine (macSumT_any g k Y (by omega) _ (hL.below H11 hL.two) M11).mono ?_
        rintro e w12 ⟨rfl, hb12⟩
        have H12 := below_then H11 hb12
        have B12 := below_then B11 hb12
        rw [hst.out]
        go_wp2_with (fail)
        refine (tag_any s k hk (by omega) a8 n8 c8 Y hYlen.out hY256.out (by omega) (by have := hc8.out; have := hYlen.out; omega) _ (hL.below H12 hL.two) (hby9.out.below B12)).mono ?_
        rintro e w13 ⟨rfl, hb13⟩
        have H13 := below_then H12 hb13
        have B13 := below_then B12 hb13
        have M13 := hM7.below B13
        have O13 := hidIt (own_below hown9.out B13)
        have Z13 := Nat.le_trans hz7 B13.size
        rw [hst.out]
        clear hM7 M11 hown9 hby9 hb10 hb11 hb12 hb13 H10 H11 H12 B11 B12 L7
        go_wp2_with (fail)
        go_roundw
        case rel => exact ⟨j + 1, n8, c8, a8, by omega, by have := hYlen.out; omega, by go_num, rfl, by rw [hnext.out]; exact hYlen, by rw [hnext.out]; exact O13.out, by rw [hnext.out]; exact M13, H13, Z13⟩
        case measure => simp [sln5]; omega
    · have e : j = len1 := by omega
      have i1 : ¬ (j : Int) < (len1 : Int) := by omega
      clear hM hownR
      go_wp2_with (fail)
      go_ret
      exact ⟨rfl, hb⟩
end Go.Proofs.YtpfekbbmbdegbaaDoor
