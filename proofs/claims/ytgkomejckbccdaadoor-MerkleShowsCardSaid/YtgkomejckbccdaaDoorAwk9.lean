import Derived.Test.YtgkomejckbccdaaDoorAwkP
import Derived.Test.YtgkomejckbccdaaDoorNewT
import Derived.Test.YtgkomejckbccdaaDoorPathM
namespace Go.Proofs.YtgkomejckbccdaaDoor
open Go.RowKit
theorem leafc_any (q b : Nat) (v : ByteArray) (hv : Mk.leaf [b] = v) (hb : b < 256) (w : World) (hL : Laid w) (hc : Bytes w (some ⟨q, 0, none⟩) [b]) :
    Calls Tryd.prog 17 #[.slice (some ⟨q, 0, none⟩) 1 1] w fun e w' => e = .returned (.string v) ∧ Below w.heap.size w w' := by
  subst hv
  exact leaf_any _ 1 1 [b] rfl (fun x hx => by rw [List.mem_singleton.1 hx]; exact hb) (by show 1 ≤ _; decide) (by show 1 ≤ 1; decide) w hL hc
theorem rds_three (w : World) (s t u : ByteArray) : RdS (w.alloc (.cells #[.string s, .string t, .string u] 9)) (some ⟨w.heap.size, 0, none⟩) 3 3 [s, t, u] := ⟨rfl, Nat.le_refl _, strs_three w s t u⟩
set_option maxRecDepth 100000 in
set_option maxHeartbeats 2000000 in
theorem awake9_any (w : World) (hL : Laid w) :
    Calls Tryd.prog 16 #[] w fun e w' => e = .returned (.bool true) ∧ Below w.heap.size w w' := by
  have kc := fun (w : World) (C : Array Value) (n c : Nat) => Lib.run_convert_bytes_const (P := Tryd.prog) w 22 5 C n c Tryd.underlying22 Tryd.underlying5
  obtain ⟨a, ha⟩ : ∃ a, Hid (Mk.leaf [97] = a) := ⟨_, rfl⟩
  obtain ⟨b, hb⟩ : ∃ a, Hid (Mk.leaf [98] = a) := ⟨_, rfl⟩
  obtain ⟨c, hc⟩ : ∃ a, Hid (Mk.leaf [99] = a) := ⟨_, rfl⟩
  obtain ⟨n1, hn1⟩ : ∃ q, Hid (Mk.node a b = q) := ⟨_, rfl⟩
  obtain ⟨rt, hrt⟩ : ∃ q, Hid (Mk.node n1 c = q) := ⟨_, rfl⟩
  have za : a.size = 32 := by rw [← ha.out, Mk.leaf_size]
  have zb : Hid (b.size = 32) := by show _ = _; rw [← hb.out, Mk.leaf_size]
  have zc : Hid (c.size = 32) := by show _ = _; rw [← hc.out, Mk.leaf_size]
  have zn : Hid (n1.size = 32) := by show _ = _; rw [← hn1.out, Mk.node_size]
  have hall : Hid (∀ s ∈ [a, b, c], s.size = 32) := by
    intro s hs
    simp only [List.mem_cons, List.not_mem_nil, or_false] at hs
    rcases hs with rfl | rfl | rfl
    · exact za
    · exact zb.out
    · exact zc.out
  have hsm : Hid (Sm [a, b, c]) := fun s hs => by rw [hall.out s hs]; decide
  have hroot : Hid (Mk.root [a, b, c] = rt) := by show _ = _; rw [root3, hn1.out, hrt.out]
  have hver : Hid (ver b 1 3 [a, c] rt = true) := by
    have := ver_path hall.out (i := 1) (by show 1 < 3; decide)
    rw [path3, hroot.out] at this; exact this
  have hcon : Hid (con 2 3 n1 rt [c] = true) := by
    have := con_proof hall.out (m := 2) (by decide) (by show 2 ≤ 3; decide)
    rw [proof3, hroot.out, part2, hn1.out] at this; exact this
  have hab : Hid (¬ a = b) := by show ¬ _; rw [← ha.out, ← hb.out]; exact leaf_ab
  have q1 : (a.toList == b.toList) = false := by rw [str_beq]; simp [hab.out]
  have q2 : (a.toList == a.toList) = true := by simp
  have q3 : (c.toList == c.toList) = true := by simp
  have q4 : (rt.toList == rt.toList) = true := by simp
  clear hab
  go_enter Tryd.func16, Tryd.ntmps16
  go_wp2_with (fail)
  have b1 : Hid (Below w.heap.size w (w.alloc (.cells #[.int .u8 97] 5 (1, 2)))) := (Below.refl _ _).alloc (Nat.le_refl _) _
  refine (leafc_any _ 97 a ha.out (by decide) _ (hL.below b1.out hL.two) (one_byte w 97 _)).mono ?_
  rintro e w1 ⟨rfl, h1⟩
  have B1 := hidIt (below_then b1.out h1)
  clear h1 b1
  go_wp2_with (fail)
  have b2 : Hid (Below w.heap.size w (w1.alloc (.cells #[.int .u8 98] 5 (1, 2)))) := below_then B1.out ((Below.refl _ _).alloc (Nat.le_refl _) _)
  refine (leafc_any _ 98 b hb.out (by decide) _ (hL.below b2.out hL.two) (one_byte w1 98 _)).mono ?_
  rintro e w2 ⟨rfl, h2⟩
  have B2 := hidIt (below_then b2.out h2)
  clear h2 b2 B1
  go_wp2_with (fail)
  have b3 : Hid (Below w.heap.size w (w2.alloc (.cells #[.int .u8 99] 5 (1, 2)))) := below_then B2.out ((Below.refl _ _).alloc (Nat.le_refl _) _)
  refine (leafc_any _ 99 c hc.out (by decide) _ (hL.below b3.out hL.two) (one_byte w2 99 _)).mono ?_
  rintro e w3 ⟨rfl, h3⟩
  have B3 := hidIt (below_then b3.out h3)
  clear h3 b3 B2 ha hb hc
  go_wp2_with (fail)
  have b4 : Hid (Below w.heap.size w (w3.alloc (.cells #[.string a, .string b, .string c] 9))) := below_then B3.out ((Below.refl _ _).alloc (Nat.le_refl _) _)
  refine (path_good _ 3 3 1 [a, b, c] [a, c] (path3 a b c) (by decide) hsm.out (by decide) _ (hL.below b4.out hL.two) (rds_three w3 a b c)).mono ?_
  rintro e w4 ⟨⟨v, rfl, hown⟩, h4⟩
  obtain ⟨ap, cp, rfl, hcp, hst, _⟩ := owned_strs hown rfl
  have hP4 : RdS w4 ap 2 cp [a, c] := ⟨rfl, hcp, hst⟩
  obtain ⟨bp, op, rfl, p0⟩ := hP4.cell (i := 0) (s := a) (by decide) rfl
  obtain ⟨_, _, he, p1⟩ := hP4.cell (i := 1) (s := c) (by decide) rfl
  cases he
  rw [Nat.add_zero] at p0
  have hP := hidIt hP4
  have B4 := hidIt (below_then b4.out h4)
  have P0 := hidIt p0
  have P1 := hidIt p1
  clear hown h4 hst hP4 p0 p1 b4 B3
  go_wp2_with (fail)
  refine (nodez_any a b n1 hn1.out (by rw [za]; decide) (by rw [zb.out]; decide) _ (hL.below B4.out hL.two)).mono ?_
  rintro e w5 ⟨rfl, h5⟩
  have C5 := hidIt h5
  clear h5
  go_wp2_with (fail)
  refine (nodez_any n1 c rt hrt.out (by rw [zn.out]; decide) (by rw [zc.out]; decide) _ (hL.below (below_then B4.out C5.out) hL.two)).mono ?_
  rintro e w6 ⟨rfl, h6⟩
  have C6 := hidIt (below_then C5.out h6)
  clear h6 C5
  go_wp2_with (fail)
  refine (newtree_any _).mono ?_
  rintro e w7 ⟨rfl, _, h7⟩
  have C7 := hidIt (below_then C6.out h7)
  have p0 := (C7.out.cell (p := ⟨bp, op, none⟩) (bytes_lt P0.out)).trans P0.out
  have p1 := (C7.out.cell (p := ⟨bp, op + 1, none⟩) (bytes_lt P1.out)).trans P1.out
  clear h7 C6 P0 P1
  go_wp2_with (fail)
  have B7 := hidIt (below_then B4.out C7.out)
  have b8 : Hid (Below w.heap.size w (w7.alloc (.cells #[.string a, .string b, .string c] 9))) := below_then B7.out ((Below.refl _ _).alloc (Nat.le_refl _) _)
  refine (root_rec 3 [a, b, c] rt _ 3 3 _ hroot (by decide) (by decide) hsm.out (hL.below b8.out hL.two) (rds_three w7 a b c)).mono ?_
  rintro e w8 ⟨rfl, h8⟩
  have B8 := hidIt (below_then b8.out h8)
  have C8 := hidIt (below_then (below_then C7.out ((Below.refl w7.heap.size w7).alloc (Nat.le_refl _) _)) h8)
  have hP8 := hidIt (hP.out.below C8.out)
  clear h8 b8 B7 C7 p0 p1 C8 hP B4
  go_wp2_with (fail)
  refine (verify_any _ 2 cp [a, c] b rt 1 3 true hver (fun s hs => hsm.out s (by simp at hs ⊢; rcases hs with h | h <;> simp [h])) (by rw [zb.out]; decide) (by decide) (by decide) (by decide) _ (hL.below B8.out hL.two) hP8).mono ?_
  rintro e w9 ⟨rfl, h9⟩
  have B9 := hidIt (below_then B8.out h9)
  clear h9 B8 hP8
  go_wp2_with (fail)
  refine (nodez_any a b n1 hn1.out (by rw [za]; decide) (by rw [zb.out]; decide) _ (hL.below B9.out hL.two)).mono ?_
  rintro e w10 ⟨rfl, h10⟩
  have B10 := hidIt (below_then B9.out h10)
  clear h10 B9
  go_wp2_with (fail)
  have b11 : Hid (Below w.heap.size w (w10.alloc (.cells #[.string c] 9))) := below_then B10.out ((Below.refl _ _).alloc (Nat.le_refl _) _)
  refine (consistent_any _ 1 1 [c] n1 rt 2 3 true hcon (fun s hs => hsm.out s (by simp at hs ⊢; simp [hs])) (by rw [zn.out]; decide) (by decide) (by decide) (by decide) _ (hL.below b11.out hL.two) (rds_one w10 c)).mono ?_
  rintro e w11 ⟨rfl, h11⟩
  have B11 := hidIt (below_then b11.out h11)
  clear h11 b11
  go_wp2_with (fail)
  go_ret
  exact ⟨rfl, B11.out⟩
end Go.Proofs.YtgkomejckbccdaaDoor
