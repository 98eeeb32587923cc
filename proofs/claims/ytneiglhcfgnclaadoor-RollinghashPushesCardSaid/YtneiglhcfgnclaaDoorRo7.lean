import Derived.Test.YtneiglhcfgnclaaDoorRo6
namespace Go.Proofs.YtneiglhcfgnclaaDoor
open Go.RowKit
theorem below_setRow {B g : Nat} {w wr : World} (h : Below B w wr) (hg : B ≤ g) (cs : Array Value) : Below B w (wr.setRow g cs) :=
  h.trans ⟨rfl, rfl, rfl, by simp, fun i hi => setRow_other _ _ i _ (by omega)⟩
theorem sliceAll256 (B : Nat) (W : World) : (Instr.sliceAt 47 (.pointer (some ⟨B, 0, none⟩)) none none none).run Tryd.prog W = .ok (.slice (some ⟨B, 0, none⟩) 256 256) W := by kernel_rfl
set_option maxRecDepth 100000 in
theorem tableS_any (s : Nat) (w : World) :
    Calls Tryd.prog 11 #[.int .u64 s] w fun e w' => ∃ g, e = .returned (.slice (some ⟨g, 0, none⟩) 256 256) ∧ w.heap.size ≤ g ∧ Blk w' g 47 (tabV s) ∧ Below w.heap.size w w' := by
  obtain ⟨V, hV, hz, hi, h1⟩ : ∃ V, tabV s = V ∧ Hid (V.size = 256) ∧ Hid ((Tryd.prog.info? 47).map (·.size) = some V.size) ∧ Hid (V.all (·.oneCell') = true) := ⟨_, rfl, rowA_size _ _ _ _, info256, rowA_one _ _ _ _⟩
  have ht : Hid (∀ W, Calls Tryd.prog 27 #[.int .u64 s] W fun e w' => e = .returned (.agg V) ∧ Below W.heap.size W w') := by rw [← hV]; exact fun W => table_any s W
  rw [hV]
  clear hV
  have hz0 := zero256
  have hsl := fun (B : Nat) (W : World) => sliceAll256 B W
  go_enter Tryd.func11, Tryd.ntmps11
  go_wp2_with (fail)
  refine (ht.out _).mono ?_
  rintro e w1 ⟨rfl, hb1⟩
  go_wp2_with (refine wpList_store_row rfl 47 _ _ rfl w1.heap.size V rfl rfl 47 (rowA .u64 (fun _ => 0) 256 0) (heap_alloc_new _ _) hi.out ?c1 h1.out ?_)
  case c1 => rw [hz.out, rowA_size]
  go_ret
  exact ⟨_, rfl, hb1.size, setRow_heap _ _ _ _ _ _ (heap_alloc_new _ _), below_setRow (hb1.alloc hb1.size _) hb1.size _⟩
set_option maxRecDepth 100000 in
theorem ofbad_any (s : Nat) (a : Option Addr) (cap n : Nat) (hn : 64 < n) (hn2 : n ≤ 140737488355328) (w : World) :
    Calls Tryd.prog 14 #[.int .u64 s, .slice a n cap] w fun e w' => e = .returned (.tuple #[.int .u64 0, .int .i64 1]) ∧ w = w' := by
  have t : (n : Int) > 64 := by omega
  go_enter Tryd.func14, Tryd.ntmps14
  go_wp2_with (fail)
  go_ret2
  exact ⟨rfl, rfl⟩
theorem last_all (n : Nat) (bs : List Nat) (h : bs.length ≤ n) : Rh.last n bs = bs := by unfold Rh.last; rw [show bs.length - n = 0 by omega]; rfl
theorem mem_getD {bs : List Nat} {k : Nat} (h : ∀ x ∈ bs, x < 256) : bs.getD k 0 < 256 := by
  rw [List.getD_eq_getElem?_getD]
  rcases Nat.lt_or_ge k bs.length with hk | hk
  · rw [List.getElem?_eq_getElem hk]; exact h _ (List.getElem_mem _)
  · rw [List.getElem?_eq_none hk]; decide
theorem take_snoc (bs : List Nat) (k : Nat) (h : k < bs.length) : bs.take (k + 1) = bs.take k ++ [bs.getD k 0] := by
  rw [List.take_add_one, List.getD_eq_getElem?_getD, List.getElem?_eq_getElem h]; rfl
set_option maxRecDepth 100000 in
theorem of_any (s : Nat) (a : Option Addr) (cap : Nat) (bs : List Nat) (hn : bs.length ≤ 64) (hc : bs.length ≤ cap) (hlt : ∀ x ∈ bs, x < 256) (w : World) (h : Bytes w a bs) :
    Calls Tryd.prog 14 #[.int .u64 s, .slice a bs.length cap] w fun e w' => e = .returned (.tuple #[.int .u64 (Rh.hsh (Rh.num s) bs), .int .i64 0]) ∧ Below w.heap.size w w' := by
  have t : ¬ (bs.length : Int) > 64 := by omega
  go_enter Tryd.func14, Tryd.ntmps14
  go_wp2_with (fail)
  refine (new_any s 64 _).mono ?_
  rintro e w1 ⟨g, rfl, hg, hS, hb1⟩
  have hS1 := hidIt hS
  have hgg := hidIt hg
  rw [show wnd 64 = 64 from rfl] at hS1
  have hB1 := hidIt hb1
  clear hS hg hb1
  go_wp2_with (fail)
  go_loopw [16, 8] (fun i _ wr => ∃ k : Nat, k ≤ bs.length ∧ i = .int .i64 k ∧ Hid (RS wr g (Rh.num s) 64 (bs.take k)) ∧ Hid (Below w.heap.size w wr)) (fun i _ _ => bs.length - (intOf i).toNat)
  case atStart => exact ⟨0, by omega, rfl, hS1, hB1⟩
  case round =>
    obtain ⟨k, hk, rfl, R, hb⟩ := hrel
    by_cases hlt2 : k < bs.length
    · obtain ⟨b, off, rfl, hc2⟩ := h k hlt2
      have cb := (hb.out.cell (p := ⟨b, off + k, none⟩) (bytes_lt hc2)).trans hc2
      have lb := mem_getD hlt (k := k)
      have hts := hidIt (take_snoc bs k hlt2)
      have lk : (bs.take k).length ≤ 1000000 := by rw [List.length_take]; omega
      generalize bs.getD k 0 = x at cb lb hts
      have t1 : k < cap := by omega
      clear hc2 h
      go_wp2_with (fail)
      refine (push_any g (Rh.num s) 64 (bs.take k) x lb lk _ R).mono ?_
      rintro e w2 ⟨rfl, hS2, hg2⟩
      have R2 : Hid (RS w2 g (Rh.num s) 64 (bs.take (k + 1))) := by rw [hts.out]; exact hS2
      have hb2 : Hid (Below w.heap.size w w2) := hb.out.trans (below_g hg2 hgg.out R.out.lt)
      clear hS2 hg2 cb
      go_wp2_with (fail)
      go_roundw
      case rel => exact ⟨k + 1, by omega, by go_num, R2, hb2⟩
      case measure => simp [intOf]; omega
    · obtain rfl : k = bs.length := by omega
      rw [List.take_length] at R
      have hR := hidIt R.out
      clear R
      go_wp2_with (fail)
      refine (sum_any g (Rh.num s) 64 bs _ hR).mono ?_
      rintro e w2 ⟨rfl, rfl⟩
      rw [last_all 64 bs hn]
      obtain ⟨y, hy⟩ : ∃ y, Hid (Rh.hsh (Rh.num s) bs = y) := ⟨_, rfl⟩
      rw [hy.out]
      go_wp2_with (fail)
      go_ret2
      exact ⟨by rw [hy.out]; rfl, hb.out⟩
end Go.Proofs.YtneiglhcfgnclaaDoor
