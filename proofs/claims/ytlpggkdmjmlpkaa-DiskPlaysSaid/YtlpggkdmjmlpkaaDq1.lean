import Derived.Test.YtlpggkdmjmlpkaaDaw
import Derived.Test.YtlpggkdmjmlpkaaAppB
import Derived.Test.YtlpggkdmjmlpkaaSl
namespace Go.Proofs.Ytlpggkdmjmlpkaa
open Go.RowKit
theorem DK.other {w w' : World} {S : Nat → Prop} {g b : Nat} {D : Dsk} (h : DK w S g D) (hg : w.grownBy w' (some b)) (hb : ¬ S b) : DK w' S g D := by
  obtain ⟨⟨dB, A, pv, P, h1, h2⟩, h3⟩ := h
  exact ⟨⟨dB, A, pv, P, h1.frame (fun q hq => hg.block q (h1.lt hq) (fun e => hb (by have h5 := h2 q hq; cases e; exact h5))), h2⟩, fun q hq => Nat.lt_of_lt_of_le (h3 q hq) hg.size⟩
namespace Dsk
theorem one_write (z : Nat) (bs : List Nat) (hl : bs.length = z) : (fresh 1 z).write 0 bs = (0, (fresh 1 z).push 0 bs) := by
  unfold Dsk.write
  rw [if_neg (by show ¬ (false = true); decide), if_pos ⟨⟨by omega, by show (0 : Int) < ((1 : Nat) : Int); omega⟩, hl⟩]
  rfl
theorem one_read (z : Nat) (bs : List Nat) : ((fresh 1 z).push 0 bs).read 0 = (0, bs) := by
  unfold Dsk.read
  rw [if_neg (by show ¬ (false = true); decide), if_pos ⟨by omega, by show (0 : Int) < ((1 : Nat) : Int); omega⟩]
  rfl
theorem one_sync (z : Nat) (bs : List Nat) (hl : bs.length = z) : ((fresh 1 z).push 0 bs).sync.1 = 0 ∧ ((fresh 1 z).push 0 bs).sync.2.n = 1 ∧ ((fresh 1 z).push 0 bs).sync.2.size = z ∧ ((fresh 1 z).push 0 bs).sync.2.dur 0 = bs ∧ ((fresh 1 z).push 0 bs).sync.2.read 0 = (0, bs) ∧ ((fresh 1 z).push 0 bs).sync.2.np = 0 := by
  have h : ((fresh 1 z).push 0 bs).sync.2.dur 0 = bs := by
    show bs.take z ++ (List.replicate z 0).drop z = bs
    rw [← hl, List.take_length, List.drop_eq_nil_of_le (by simp), List.append_nil]
  refine ⟨rfl, rfl, rfl, h, ?_, rfl⟩
  unfold Dsk.read
  rw [if_neg (by show ¬ (false = true); decide), if_pos ⟨by omega, by show (0 : Int) < ((1 : Nat) : Int); omega⟩]
  show (0, ((fresh 1 z).push 0 bs).sync.2.dur 0) = _
  rw [h]
end Dsk
/-- an own row of at least one byte: where it lies -/
theorem own_at {w : World} {base n : Nat} {v : Value} {bs : List Nat} (h : w.ownsRow base 5 1 v n (vals bs)) (hn : n = bs.length) (h0 : 0 < n) : ∃ b c, v = .slice (some ⟨b, 0, none⟩) n c ∧ base ≤ b ∧ b < w.heap.size ∧ Bytes w (some ⟨b, 0, none⟩) bs ∧ ∀ i, w.frozen? ⟨b, i, none⟩ = false := by
  obtain ⟨a2, c2, e2, hby, _⟩ := owned_bytes h hn
  rcases h.2 with ⟨_, h1⟩ | ⟨b, cap, cur, e, hb, hg, hle, _⟩
  · omega
  · subst e
    simp only [Value.slice.injEq] at e2
    obtain ⟨rfl, _, _⟩ := e2
    exact ⟨b, cap, rfl, hb, Blk.lt hg, hby, fun i => Blk.frozen hg i⟩
set_option maxRecDepth 100000 in
set_option maxHeartbeats 4000000 in
theorem dcopies_walk (a : Option Addr) (len cap : Nat) (bs : List Nat) (w : World) (h : RowB w a len cap bs) :
    Calls Try.prog 10 #[.slice a len cap] w fun e w' => e = .returned (.bool true) ∧ Below w.heap.size w w' := by
  have hr := hidIt h
  clear h
  go_enter Try.func10, Try.ntmps10
  go_wp2_with (fail)
  refine (awake_any _).mono ?_
  rintro e w1 ⟨rfl, hb1⟩
  have H1 := hidIt hb1
  have hr1 := hidIt (hr.out.bytes.below hb1)
  clear hb1
  by_cases h1 : (len : Int) < 1
  · go_wp2_with (fail)
    go_ret
    exact ⟨rfl, H1.out⟩
  · by_cases h8 : (len : Int) > 8
    · go_wp2_with (fail)
      go_ret
      exact ⟨rfl, H1.out⟩
    · have hlen := hidIt hr.out.len
      have hlt := hidIt hr.out.lt
      have hnl := hidIt hr.out.nil
      obtain ⟨z, hz⟩ : ∃ z : Nat, Hid (len = z) := ⟨_, rfl⟩
      have hz0 : 1 ≤ z ∧ z ≤ 8 := by have := hz.out; omega
      have hbz : Hid (bs.length = z) := by show _ = _; rw [← hlen.out, hz.out]
      rw [hz.out]
      rw [hz.out] at h1 h8
      have xw := Dsk.one_write z bs hbz.out
      have xr := Dsk.one_read z bs
      have xs := Dsk.one_sync z bs hbz.out
      replace xw := hidIt xw
      replace xr := hidIt xr
      replace xs := hidIt xs
      obtain ⟨D1, hD1⟩ : ∃ D1, Hid ((Dsk.fresh 1 z).push 0 bs = D1) := ⟨_, rfl⟩
      rw [hD1.out] at xw xr xs
      have hnp1 : Hid (D1.np = 1 ∧ D1.size = z) := by show _ ∧ _; rw [← hD1.out]; exact ⟨rfl, rfl⟩
      go_wp2_with (fail)
      refine (new_any 1 (z : Int) w1).mono ?_
      rintro e w2 hN
      unfold NewR at hN
      rw [if_pos (by omega)] at hN
      obtain ⟨g, S, rfl, hD, hS, hb2⟩ := hN
      have hDa : Hid (DK w2 S g (Dsk.fresh 1 z)) := hD
      have hSa := hidIt (fun b hb => Nat.le_trans H1.out.size (hS b hb) : ∀ b, S b → w.heap.size ≤ b)
      have H2 := hidIt (below_then H1.out hb2)
      have hr2 := hidIt (hr1.out.below hb2)
      clear hD hS hb2 H1 hr1
      have hst2 := hidIt (show ∀ b, S b → b < w2.heap.size from hDa.out.2)
      have hH2 := hidIt H2.out.size
      have hown0 := hidIt (emptyOwnAt w2 w2.heap.size (Nat.le_refl _))
      have hbE : Below w2.heap.size w2 (w2.alloc (.cells #[] 5)) := (Below.refl _ _).alloc (Nat.le_refl _) _
      have hrE := hidIt (hr2.out.below hbE)
      have hsE : Hid (w2.heap.size ≤ (w2.alloc (.cells #[] 5)).heap.size) := hbE.size
      have hbE' := hidIt hbE
      clear hbE hr2
      go_wp2_with (at_builtin; refine wpList_append_bytes _ rfl _ _ rfl w2.heap.size (.slice (some ⟨w2.heap.size, 0, none⟩) 0 0) 0 (vals []) rfl hown0.out a z cap bs rfl hbz.out.symm hrE.out hnl.out (by rw [hbz.out]; omega) hsE.out ?_; intro v3 w3 ho3 hg3; replace ho3 := hidIt ho3; replace hg3 := hidIt hg3; obtain ⟨bi, ci, rfl, hi1, hi2, hi3, hi4⟩ := own_at (n := z) (bs := bs) (by have h := ho3.out; rw [show 0 + bs.length = z by have := hbz.out; omega] at h; exact h) hbz.out.symm (by omega); replace hi1 := hidIt hi1; replace hi2 := hidIt hi2; replace hi3 := hidIt hi3; replace hi4 := hidIt hi4)
      have hb3 : Below w2.heap.size w2 w3 := hbE'.out.grown hg3.out hsE.out (fun q hq => by cases hq; exact Nat.le_refl _)
      have hD3 := hidIt (hDa.out.below hb3)
      have H3 := hidIt (below_then H2.out hb3)
      clear hb3 hg3 ho3 hbE' hsE hrE hown0 hDa H2
      have hni : Hid (¬ S bi) := fun e => by have := hst2.out bi e; have := hi1.out; omega
      have dW := hidIt (write_any g S (Dsk.fresh 1 z) 0 (some ⟨bi, 0, none⟩) z ci bs w3 hD3 hbz.out.symm hi3.out hlt (by show 0 ≤ 1000000; decide))
      rw [xw.out] at dW
      refine dW.out.mono ?_
      rintro e w4 ⟨rfl, S4, hD, hst⟩
      have hDb := hidIt hD
      have aw4 := hidIt ((show Away w3 S bi from ⟨hi2.out, hni.out⟩).step hst)
      have hbk : w4.heap[bi]? = w3.heap[bi]? := hst.same ⟨hi2.out, hni.out⟩
      have hi34 := hidIt (hi3.out.blocks (w' := w4) (fun x hx => by cases hx; exact hbk))
      have hf4 : w4.frozen? ⟨bi, 0, none⟩ = false := (World.frozen?_of_block (a := ⟨bi, 0, none⟩) hbk).trans (hi4.out 0)
      have H4 := hidIt (H3.out.trans (hst.below H3.out.size hSa.out))
      have hS4 := hidIt (hst.lo H3.out.size hSa.out)
      obtain ⟨y0, hc4⟩ : ∃ y : Nat, w4.cell? ⟨bi, 0, none⟩ = some (.int .u8 (y : Int)) := by
        obtain ⟨b', o', e1, e2⟩ := hi34.out 0 (by rw [hbz.out]; omega)
        cases e1
        exact ⟨_, e2⟩
      have hbi : Hid (w.heap.size ≤ bi) := by have := hi1.out; have := H4.out.size; show _ ≤ _; exact Nat.le_trans hH2.out hi1.out
      clear hD hst dW hD3 H3 hSa hni hst2 hi1 hi2 hi3 hi4 hbk hi34
      have t0 : (0 : Int) < (z : Int) := by omega
      go_wp2_with (fail)
      obtain ⟨w5, hw5, hD5, H5⟩ : ∃ w5, Hid (w4.setCell ⟨bi, 0, none⟩ (.int .u8 (((y0 : Int) + 1) % 256)) = w5) ∧ Hid (DK w5 S4 g D1) ∧ Hid (Below w.heap.size w w5) := ⟨_, rfl, hDb.out.other (grownBy_setC w4 bi 0 _) aw4.out.2, H4.out.setCell (p := ⟨bi, 0, none⟩) hbi.out _⟩
      rw [hw5.out]
      clear hw5 hDb H4 hc4 hf4 aw4 hbi
      have dR := hidIt (read_any g S4 D1 0 w5 hD5 (by rw [hnp1.out.1]; decide))
      rw [xr.out, hnp1.out.2] at dR
      refine dR.out.mono ?_
      rintro e w6 ⟨(⟨hc, _⟩ | ⟨_, q, rfl, hq, hbb⟩), hb6⟩
      · exact absurd rfl hc
      have hrq : Rd w6 (some ⟨q, 0, none⟩) z bs := ⟨hbb.bytes, hbz.out.symm, hlt.out⟩
      have hra : Rd w6 a z bs := ⟨hr.out.bytes.below (below_then H5.out hb6), hbz.out.symm, hlt.out⟩
      have dS := hidIt (same_any (some ⟨q, 0, none⟩) a z z z cap bs bs w6 hrq hra)
      rw [decide_eq_true rfl] at dS
      have hD6 := hidIt (hD5.out.below hb6)
      have H6 := hidIt (below_then H5.out hb6)
      have hqa : Hid (¬ S4 q ∧ w.heap.size ≤ q) := ⟨fun e => by have := hD5.out.2 q e; omega, Nat.le_trans H5.out.size hq⟩
      obtain ⟨y1, hc6⟩ : ∃ y : Nat, w6.cell? ⟨q, 0, none⟩ = some (.int .u8 (y : Int)) := by
        obtain ⟨b', o', e1, e2⟩ := hbb.bytes 0 (by rw [hbz.out]; omega)
        cases e1
        exact ⟨_, e2⟩
      have hf6 : w6.frozen? ⟨q, 0, none⟩ = false := Blk.frozen hbb 0
      clear hbb hb6 hq hrq hra dR hD5 H5
      go_wp2_with (fail)
      refine dS.out.mono ?_
      rintro e w7 ⟨rfl, rfl⟩
      clear dS
      go_wp2_with (fail)
      obtain ⟨w7, hw7, hD7, H7⟩ : ∃ w7, Hid (w6.setCell ⟨q, 0, none⟩ (.int .u8 (((y1 : Int) + 1) % 256)) = w7) ∧ Hid (DK w7 S4 g D1) ∧ Hid (Below w.heap.size w w7) := ⟨_, rfl, hD6.out.other (grownBy_setC w6 q 0 _) hqa.out.1, H6.out.setCell (p := ⟨q, 0, none⟩) hqa.out.2 _⟩
      rw [hw7.out]
      clear hw7 hD6 H6 hc6 hf6 hqa
      have dY := hidIt (sync_any g S4 D1 w7 hD7 (by rw [hnp1.out.1]; decide))
      rw [xs.out.1] at dY
      refine dY.out.mono ?_
      rintro e w8 ⟨rfl, S8, hD, hst⟩
      have hD8 := hidIt hD
      have H8 := hidIt (H7.out.trans (hst.below H7.out.size hS4.out))
      clear hD hst dY hD7 H7 hS4
      obtain ⟨D2, hD2⟩ : ∃ D2, Hid (D1.sync.2 = D2) := ⟨_, rfl⟩
      rw [hD2.out] at hD8 xs
      go_wp2_with (fail)
      have dI := hidIt (image_any g S8 D2 w8 hD8)
      rw [xs.out.2.1, xs.out.2.2.1] at dI
      refine dI.out.mono ?_
      rintro e w9 ⟨R, qi, rfl, hI, hb9⟩
      have e0 := hI.cell (i := 0) (by decide)
      have hbq : BB w9 (qi 0) bs := by have := hI.sec 0 (by decide); rw [xs.out.2.2.2.1] at this; exact this
      have hra : Rd w9 a z bs := ⟨hr.out.bytes.below (below_then H8.out hb9), hbz.out.symm, hlt.out⟩
      have dS := hidIt (same_any (some ⟨qi 0, 0, none⟩) a z z z cap bs bs w9 ⟨hbq.bytes, hbz.out.symm, hlt.out⟩ hra)
      rw [decide_eq_true rfl] at dS
      have hD9 := hidIt (hD8.out.below hb9)
      have H9 := hidIt (below_then H8.out hb9)
      have hqa : Hid (¬ S8 (qi 0) ∧ w.heap.size ≤ qi 0) := ⟨fun e => by have := hD8.out.2 _ e; have := hI.lo.2 0 (by decide); omega, Nat.le_trans H8.out.size (hI.lo.2 0 (by decide))⟩
      obtain ⟨y2, hc9⟩ : ∃ y : Nat, w9.cell? ⟨qi 0, 0, none⟩ = some (.int .u8 (y : Int)) := by
        obtain ⟨b', o', e1, e2⟩ := hbq.bytes 0 (by rw [hbz.out]; omega)
        cases e1
        exact ⟨_, e2⟩
      have hf9 : w9.frozen? ⟨qi 0, 0, none⟩ = false := Blk.frozen hbq 0
      clear hI hbq hb9 hra dI hD8 H8
      go_wp2_with (fail)
      refine dS.out.mono ?_
      rintro e w10 ⟨rfl, rfl⟩
      clear dS
      go_wp2_with (fail)
      obtain ⟨w10, hw10, hD10, H10⟩ : ∃ w10, Hid (w9.setCell ⟨qi 0, 0, none⟩ (.int .u8 (((y2 : Int) + 1) % 256)) = w10) ∧ Hid (DK w10 S8 g D2) ∧ Hid (Below w.heap.size w w10) := ⟨_, rfl, hD9.out.other (grownBy_setC w9 (qi 0) 0 _) hqa.out.1, H9.out.setCell (p := ⟨qi 0, 0, none⟩) hqa.out.2 _⟩
      rw [hw10.out]
      clear hw10 hD9 H9 hc9 hf9 hqa e0
      have dR := hidIt (read_any g S8 D2 0 w10 hD10 (by rw [xs.out.2.2.2.2.2]; decide))
      rw [xs.out.2.2.2.2.1, xs.out.2.2.1] at dR
      refine dR.out.mono ?_
      rintro e w11 ⟨(⟨hc, _⟩ | ⟨_, q3, rfl, hq, hbb⟩), hb11⟩
      · exact absurd rfl hc
      have hra : Rd w11 a z bs := ⟨hr.out.bytes.below (below_then H10.out hb11), hbz.out.symm, hlt.out⟩
      have dS := hidIt (same_any (some ⟨q3, 0, none⟩) a z z z cap bs bs w11 ⟨hbb.bytes, hbz.out.symm, hlt.out⟩ hra)
      rw [decide_eq_true rfl] at dS
      have H11 := hidIt (below_then H10.out hb11)
      clear hbb hb11 hra dR hD10 H10
      go_wp2_with (fail)
      refine dS.out.mono ?_
      rintro e w12 ⟨rfl, rfl⟩
      clear dS
      go_wp2_with (fail)
      go_ret
      exact ⟨rfl, H11.out⟩
end Go.Proofs.Ytlpggkdmjmlpkaa
