import Derived.Test.YtegfbmekpmdcaaaDoorMac
import Derived.Great.FillDense
namespace Go.Proofs.YtegfbmekpmdcaaaDoor
open Go.RowKit
/-- the Mac in block g: its key (not longer than a block) and its data -/
structure MR (w : World) (g : Nat) (k ys : List Nat) : Prop where
  ex : ∃ bfo, Sh.Held bfo (Hm.pad k 92) ∧ SRx 102 (stC (Sh.hs (Hm.pad k 92) ((Hm.pad k 92).length / 64)) bfo (Hm.pad k 92).length) w g (Hm.pad k 54 ++ ys)
theorem MR.lt {w : World} {g : Nat} {k ys : List Nat} (h : MR w g k ys) : g < w.heap.size := by
  obtain ⟨_, _, h2⟩ := h.ex; exact h2.lt
theorem SRx.far {ty : TypeId} {post : List Value} {w w' : World} {g : Nat} {ys : List Nat} (h : SRx ty post w g ys) (hb : w'.heap[g]? = w.heap[g]?) : SRx ty post w' g ys := by
  obtain ⟨bf, h1, h2⟩ := h.ex
  exact ⟨h.two, bf, h1, hb.trans h2⟩
theorem MR.far {w w' : World} {g : Nat} {k ys : List Nat} (h : MR w g k ys) (hb : w'.heap[g]? = w.heap[g]?) : MR w' g k ys := by
  obtain ⟨bfo, h1, h2⟩ := h.ex
  exact ⟨bfo, h1, h2.far hb⟩
theorem MR.below {w w' : World} {g : Nat} {k ys : List Nat} (h : MR w g k ys) (hb : Below w.heap.size w w') : MR w' g k ys := h.far (hb.block g h.lt)
theorem MR.grown {w w' : World} {g g' : Nat} {k ys : List Nat} (h : MR w g k ys) (hg : w.grownBy w' (some g')) (hne : g ≠ g') : MR w' g k ys := h.far (hg.block g h.lt (fun e => hne (by injection e)))
/-- the cells of the state of a sum after its first block -/
def Half (k : List Nat) (x : Nat) (A : Array Value) : Prop := ∃ bf, Sh.Held bf (Hm.pad k x) ∧ A = (stC (Sh.hs (Hm.pad k x) ((Hm.pad k x).length / 64)) bf (Hm.pad k x).length).toArray
theorem Half.size {k : List Nat} {x : Nat} {A : Array Value} (h : Half k x A) : A.size = 73 := by
  obtain ⟨bf, hH, rfl⟩ := h
  exact stC_size _ _ _ hH.1
def zero73 : Array Value := (stC zeroS zeroBf 0).toArray
theorem zero73_size : zero73.size = 73 := by kernel_rfl
theorem fold73 (off : Nat) (Z A : Array Value) (hA : A.size = 73) (hZ : off + 73 ≤ Z.size) (R : Array Value) (hR : R = (Z.toList.take off ++ (A.toList ++ Z.toList.drop (off + 73))).toArray) :
    Array.foldl (fun cs (x : Value × Nat) => cs.setIfInBounds (off + x.snd) x.fst) Z A.zipIdx 0 73 = R := by
  have e1 : A.zipIdx.size = 73 := by simp [hA]
  rw [← e1, ← Array.foldl_toList, Array.toList_zipIdx]
  obtain ⟨g1, g2⟩ := Go.Great.foldl_set off A.toList 0 Z
  subst hR
  apply Array.ext_getElem?
  intro k
  have e2 : ∀ l : List Value, l.toArray[k]? = l[k]? := fun l => List.getElem?_toArray ..
  rw [g2 k, e2 (Z.toList.take off ++ _), Array.length_toList, Nat.add_zero, hA]
  have hl : (Z.toList.take off).length = off := by rw [List.length_take, Array.length_toList]; omega
  by_cases h1 : off ≤ k ∧ k < off + 73 ∧ k < Z.size
  · rw [if_pos h1, List.getElem?_append_right (by omega), hl, List.getElem?_append_left (by rw [Array.length_toList]; omega)]
  · rw [if_neg h1]
    by_cases h2 : k < off
    · rw [List.getElem?_append_left (by omega), List.getElem?_take, if_pos h2, Array.getElem?_toList]
    · rw [List.getElem?_append_right (by omega), hl]
      by_cases h3 : k < Z.size
      · rw [List.getElem?_append_right (by rw [Array.length_toList]; omega), Array.length_toList, hA, List.getElem?_drop, show off + 73 + (k - off - 73) = k by omega, Array.getElem?_toList]
      · rw [Array.getElem?_eq_none (by omega), List.getElem?_eq_none]
        rw [List.length_append, Array.length_toList, List.length_drop, Array.length_toList]
        omega
theorem fold71 (Z A : Array Value) (hZ : Z.size = 73) (hA : A.size = 73) : Array.foldl (fun cs (x : Value × Nat) => cs.setIfInBounds x.snd x.fst) Z A.zipIdx 0 73 = A := by
  have h := fold73 0 Z A hA (by omega) A (by rw [List.take_zero, List.nil_append, List.drop_of_length_le (by rw [Array.length_toList]; omega), List.append_nil])
  simpa only [Nat.zero_add] using h
theorem fold73a (Z A : Array Value) (hZ : Z.size = 146) (hA : A.size = 73) : ∃ Y : Array Value, Y.size = 146 ∧ Array.foldl (fun cs (x : Value × Nat) => cs.setIfInBounds x.snd x.fst) Z A.zipIdx 0 73 = Y ∧ Hid (Y = (A.toList ++ Z.toList.drop 73).toArray) := by
  have h := fold73 0 Z A hA (by omega) _ rfl
  simp only [Nat.zero_add, List.take_zero, List.nil_append] at h
  exact ⟨_, by rw [List.size_toArray, List.length_append, List.length_drop, Array.length_toList, Array.length_toList]; omega, h, rfl⟩
theorem fold73b (Z A B Y : Array Value) (hY : Hid (Y = (A.toList ++ Z.toList.drop 73).toArray)) (hZ : Z.size = 146) (hA : A.size = 73) (hB : B.size = 73) : Array.foldl (fun cs (x : Value × Nat) => cs.setIfInBounds (73 + x.snd) x.fst) Y B.zipIdx 0 73 = (A.toList ++ B.toList).toArray := by
  have hl : Y.size = 146 := by rw [hY.out, List.size_toArray, List.length_append, List.length_drop, Array.length_toList, Array.length_toList]; omega
  refine fold73 73 Y B hB (by omega) _ ?_
  rw [List.drop_of_length_le (by rw [Array.length_toList]; omega), List.append_nil, hY.out, List.take_append_of_le_length (by rw [Array.length_toList]; omega), List.take_of_length_le (by rw [Array.length_toList]; omega)]
def zero146 : Array Value := (stC zeroS zeroBf 0 ++ stC zeroS zeroBf 0).toArray
theorem zeros71 : ∃ Z : Array Value, Z.size = 73 ∧ ∀ w, (zeroValue 100).run Tryd.prog w = .ok (.agg Z) w := ⟨zero73, by kernel_rfl, fun w => by kernel_rfl⟩
theorem zeros73 : ∃ Z : Array Value, Z.size = 146 ∧ ∀ w, (zeroValue 102).run Tryd.prog w = .ok (.agg Z) w := ⟨zero146, by kernel_rfl, fun w => by kernel_rfl⟩
theorem with_h54 (w : World) (hL : LaidH w) : Calls Tryd.prog 73 #[.int .u8 54] w fun e w' => e = .returned (.func (.func 82) #[] #[.pointer (some ⟨w.heap.size, 0, none⟩)]) ∧ w'.cell? ⟨w.heap.size, 0, none⟩ = some (.int .u8 ((54 : Nat) : Int)) ∧ Below w.heap.size w w' ∧ LaidH w' :=
  (with_any 54 w).mono fun _ _ ⟨h1, h2, h3⟩ => ⟨h1, h2, h3, hL.below h3 hL.two⟩
theorem with_h92 (w : World) (hL : LaidH w) : Calls Tryd.prog 73 #[.int .u8 92] w fun e w' => e = .returned (.func (.func 82) #[] #[.pointer (some ⟨w.heap.size, 0, none⟩)]) ∧ w'.cell? ⟨w.heap.size, 0, none⟩ = some (.int .u8 ((92 : Nat) : Int)) ∧ Below w.heap.size w w' ∧ LaidH w' :=
  (with_any 92 w).mono fun _ _ ⟨h1, h2, h3⟩ => ⟨h1, h2, h3, hL.below h3 hL.two⟩
theorem begin_h (x : Nat) (hx : x < 256) (s : ByteArray) (k : List Nat) (hk : Hid (ofStr s = k)) (hk64 : k.length ≤ 64) (q : Nat) (w : World) (hL : LaidH w) (hq : w.cell? ⟨q, 0, none⟩ = some (.int .u8 (x : Int))) :
    Calls Tryd.prog 72 #[.string s, .func (.func 82) #[] #[.pointer (some ⟨q, 0, none⟩)]] w fun e w' => ∃ A, e = .returned (.agg A) ∧ Hid (Half k x A) ∧ A.size = 73 ∧ Below w.heap.size w w' ∧ LaidH w' := by
  refine (begin_any s k hk hk64 x q hx w hL hq).mono ?_
  rintro e w' ⟨⟨bf, hH, he⟩, hb⟩
  exact ⟨_, he, ⟨bf, hH, rfl⟩, Half.size ⟨bf, hH, rfl⟩, hb, hL.below hb hL.two⟩
/-- what the loads of the masks read -/
def MaS (w : World) : Prop := LaidH w ∧ w.cell? ⟨0, 0, none⟩ = some (.int .u8 54) ∧ w.cell? ⟨0, 1, none⟩ = some (.int .u8 92)
theorem LaidH.all {w : World} (h : LaidH w) : MaS w := ⟨h, h.m0, h.m1⟩
theorem LaidH.drew {w : World} (h : LaidH w) : LaidH w.drew := h.drewN 1
theorem LaidH.alloc {w : World} (h : LaidH w) (o : Obj) : LaidH (w.alloc o) := h.below ((Below.refl _ _).alloc (Nat.le_refl _) _) h.two
theorem mac_of {k : List Nat} {A B : Array Value} (hA : Half k 54 A) (hB : Half k 92 B) (w : World) (h2 : 2 + 1 ≤ w.heap.size) : MR (w.alloc (.cells (A.toList ++ B.toList).toArray 102)) w.heap.size k [] := by
  obtain ⟨bf, hH, rfl⟩ := hA
  obtain ⟨bfo, hHo, rfl⟩ := hB
  refine ⟨bfo, hHo, h2, bf, ?_, ?_⟩
  · rw [List.append_nil]; exact hH
  · rw [List.append_nil, stP_stC]; exact Blk.new w _ _
set_option maxRecDepth 100000 in
set_option maxHeartbeats 4000000 in
theorem newMac_short (s : ByteArray) (k : List Nat) (hk : Hid (ofStr s = k)) (hk64 : k.length ≤ 64) (w : World) (hL : LaidH w) :
    Calls Tryd.prog 59 #[.string s] w fun e w' => ∃ g, w.heap.size ≤ g ∧ e = .returned (.pointer (some ⟨g, 0, none⟩)) ∧ MR w' g k [] ∧ Below w.heap.size w w' := by
  have hsz : s.size = k.length := by rw [← hk.out, ofStr_len]
  have t0 : ¬ (64 : Int) < (s.size : Int) := by omega
  obtain ⟨Z1, hZ1, hz1⟩ := zeros71
  obtain ⟨Z2, hZ2, hz2⟩ := zeros73
  have hla := hL.all
  unfold MaS at hla
  clear hsz
  go_enter Tryd.func59, Tryd.ntmps59
  go_wp2_with (fail)
  go_region_held3 (fun w' => LaidH w' ∧ w'.cell? ⟨0, 0, none⟩ = some (.int .u8 54) ∧ w'.cell? ⟨0, 1, none⟩ = some (.int .u8 92))
    (first
      | exact LaidH.all (by assumption)
      | (go_split_ands; exact LaidH.all (by assumption))
      | exact LaidH.all (LaidH.drew (by assumption))
      | (go_split_ands; exact LaidH.all (LaidH.alloc (by assumption) _)))
    (first
      | (go_at_call 73; go_split_ands; refine (with_h54 _ (by assumption)).mono ?_; rintro e w1 ⟨rfl, hc1, hb1, hl1⟩)
      | (go_at_call 73; go_split_ands; refine (with_h92 _ (by assumption)).mono ?_; rintro e w4 ⟨rfl, hc4, hb4, hl4⟩)
      | (go_at_call 72; go_split_ands; refine (begin_h 54 (by decide) s k hk hk64 _ _ (by assumption) (by assumption)).mono ?_; rintro e w2 ⟨A, rfl, hA, hAs, hb2, hl2⟩; have hfA := fold71 Z1 A hZ1 hAs; obtain ⟨Y, hYs, hfY, hY⟩ := fold73a Z2 A hZ2 hAs)
      | (go_at_call 72; go_split_ands; refine (begin_h 92 (by decide) s k hk hk64 _ _ (by assumption) (by assumption)).mono ?_; rintro e w3 ⟨B, rfl, hB, hBs, hb3, hl3⟩; have hfB := fold73b Z2 _ B _ (by assumption) hZ2 (by assumption) hBs))
  all_goals
    go_wp2_with (fail)
    go_ret
    have q4 : Below w.heap.size w w4 := by
      have q1 : Below w.heap.size w w1 := ⟨hb1.os, hb1.tape, hb1.output, hb1.size, hb1.block⟩
      exact below_then (below_then q1 hb2) hb4
    have q3 := below_then q4 hb3
    exact ⟨w3.heap.size, q3.size, rfl, mac_of hA.out hB.out w3 hl3.two, q3.alloc q3.size _⟩
theorem cat_one (s : ByteArray) : cat [s] = ofStr s := by simp [cat]
set_option maxRecDepth 100000 in
set_option maxHeartbeats 4000000 in
theorem newMac_any (s : ByteArray) (k : List Nat) (hk : Hid (ofStr s = k)) (hbig : k.length ≤ 140737488355000) (w : World) (hL : LaidH w) :
    Calls Tryd.prog 59 #[.string s] w fun e w' => ∃ g, w.heap.size ≤ g ∧ e = .returned (.pointer (some ⟨g, 0, none⟩)) ∧ MR w' g (Hm.key k) [] ∧ Below w.heap.size w w' := by
  by_cases hlong : 64 < k.length
  case neg =>
    have e : Hm.key k = k := by unfold Hm.key; rw [if_neg hlong]
    rw [e]; exact newMac_short s k hk (by omega) w hL
  have hkey : Hid (Hm.key k = Sh.sum k) := by show _ = _; unfold Hm.key; rw [if_pos hlong]
  have hsz : s.size = k.length := by rw [← hk.out, ofStr_len]
  have t0 : (64 : Int) < (s.size : Int) := by omega
  obtain ⟨Z1, hZ1, hz1⟩ := zeros71
  obtain ⟨Z2, hZ2, hz2⟩ := zeros73
  clear hsz hlong
  go_enter Tryd.func59, Tryd.ntmps59
  go_wp2_with (fail)
  have hb0 : Below w.heap.size w (w.alloc (.cells #[.string s] 9)) := (Below.refl _ _).alloc (Nat.le_refl _) _
  refine (join_any (some ⟨w.heap.size, 0, none⟩) 1 [s] (by rw [cat_one, hk.out]; exact hbig) (by simp) _ (hL.below hb0 hL.two).l (strs_one w s)).mono ?_
  rintro e v ⟨rfl, hv0⟩
  have hv := below_then hb0 hv0
  have hLv := hL.below hv hL.two
  have hla := hLv.all
  unfold MaS at hla
  rw [cat_one, hk.out]
  obtain ⟨s2, hs2⟩ : ∃ s2, Hid (str (Sh.sum k) = s2) := ⟨_, rfl⟩
  have hk2 : Hid (ofStr s2 = Sh.sum k) := by show _ = _; rw [← hs2.out, ofStr_str _ (Sh.sum_lt k)]
  have hk64 : (Sh.sum k).length ≤ 64 := by rw [Sh.sum_len]; decide
  rw [hs2.out]
  clear hb0 hv0 hL t0 hs2
  go_wp2_with (fail)
  go_region_held3 (fun w' => LaidH w' ∧ w'.cell? ⟨0, 0, none⟩ = some (.int .u8 54) ∧ w'.cell? ⟨0, 1, none⟩ = some (.int .u8 92))
    (first
      | exact LaidH.all (by assumption)
      | (go_split_ands; exact LaidH.all (by assumption))
      | exact LaidH.all (LaidH.drew (by assumption))
      | (go_split_ands; exact LaidH.all (LaidH.alloc (by assumption) _)))
    (first
      | (go_at_call 73; go_split_ands; refine (with_h54 _ (by assumption)).mono ?_; rintro e w1 ⟨rfl, hc1, hb1, hl1⟩)
      | (go_at_call 73; go_split_ands; refine (with_h92 _ (by assumption)).mono ?_; rintro e w4 ⟨rfl, hc4, hb4, hl4⟩)
      | (go_at_call 72; go_split_ands; refine (begin_h 54 (by decide) s2 (Sh.sum k) hk2 hk64 _ _ (by assumption) (by assumption)).mono ?_; rintro e w2 ⟨A, rfl, hA, hAs, hb2, hl2⟩; have hfA := fold71 Z1 A hZ1 hAs; obtain ⟨Y, hYs, hfY, hY⟩ := fold73a Z2 A hZ2 hAs)
      | (go_at_call 72; go_split_ands; refine (begin_h 92 (by decide) s2 (Sh.sum k) hk2 hk64 _ _ (by assumption) (by assumption)).mono ?_; rintro e w3 ⟨B, rfl, hB, hBs, hb3, hl3⟩; have hfB := fold73b Z2 _ B _ (by assumption) hZ2 (by assumption) hBs))
  all_goals
    go_wp2_with (fail)
    go_ret
    have q4 : Below v.heap.size v w4 := by
      have q1 : Below v.heap.size v w1 := ⟨hb1.os, hb1.tape, hb1.output, hb1.size, hb1.block⟩
      exact below_then (below_then q1 hb2) hb4
    have q3 := below_then q4 hb3
    exact ⟨w3.heap.size, Nat.le_trans hv.size q3.size, rfl, by rw [hkey.out]; exact mac_of hA.out hB.out w3 hl3.two, below_then hv (q3.alloc q3.size _)⟩
end Go.Proofs.YtegfbmekpmdcaaaDoor
