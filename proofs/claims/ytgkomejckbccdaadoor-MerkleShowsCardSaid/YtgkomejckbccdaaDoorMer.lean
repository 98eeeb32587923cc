import Derived.Test.YtgkomejckbccdaaDoorSpl
import Derived.Lib.SlBytesConst
namespace Go.Proofs.YtgkomejckbccdaaDoor
open Go.RowKit
theorem one_byte (w : World) (b : Nat) (fr : Nat × Nat) : Bytes (w.alloc (.cells #[.int .u8 (b : Int)] 5 fr)) (some ⟨w.heap.size, 0, none⟩) [b] := by
  intro i hi
  have h0 : i = 0 := by simpa using hi
  subst h0
  exact ⟨_, 0, rfl, by rw [cell_of_row _ _ _ _ _ _ (heap_alloc_new w _)]; rfl⟩
set_option maxRecDepth 100000 in
theorem leaf_any (a : Option Addr) (n cap : Nat) (xs : List Nat) (hn : n = xs.length) (hx : ∀ x ∈ xs, x < 256) (hbig : xs.length ≤ 140737488354000) (hcap : xs.length ≤ cap) (w : World) (hL : Laid w) (h : Bytes w a xs) :
    Calls Tryd.prog 17 #[.slice a n cap] w fun e w' => e = .returned (.string (Mk.leaf xs)) ∧ Below w.heap.size w w' := by
  have hlt : 0 < xs.length → ∀ x, a = some x → x.block < w.heap.size := fun h0 => h.blk h0
  have i2 := hidIt h
  have l2 := hidIt hlt
  have n2 := hidIt hn
  clear h hlt hn
  have kc := fun (w : World) (C : Array Value) (n c : Nat) => Lib.run_convert_bytes_const (P := Tryd.prog) w 22 5 C n c Tryd.underlying22 Tryd.underlying5
  go_enter Tryd.func17, Tryd.ntmps17
  go_wp2_with (fail)
  refine (new_any _ hL).mono ?_
  rintro e w1 ⟨rfl, hs1, hb1⟩
  have hs1' := hidIt hs1
  have hb1' := hidIt hb1
  clear hs1 hb1
  go_wp2_with (fail)
  have hbA : Below w1.heap.size w1 (w1.alloc (.cells #[.int .u8 0] 5 (1, 2))) := (Below.refl _ _).alloc (Nat.le_refl _) _
  have H2 := hidIt (below_then hb1'.out hbA)
  have hs2 := hs1'.out.below hbA
  have L2 := hL.below H2.out hL.two
  have hgl := hs1'.out.lt
  refine (smWrite_at w.heap.size [] _ 1 1 [0] rfl (by simp) (by simp) (by simp) _ L2 hs2 (one_byte w1 0 _) (fun _ x hx => by cases hx; show w1.heap.size ≠ _; omega)).mono ?_
  rintro e w2 ⟨rfl, hs3, hg3⟩
  rw [List.nil_append] at hs3
  have H3 := hidIt (SR.grown_new H2.out hg3 (Nat.le_refl _))
  have hs3' := hidIt hs3
  clear hs2 L2 hgl hs3 hbA hg3
  go_wp2_with (fail)
  refine (smWrite_at w.heap.size [0] a n cap xs n2.out hx (by simp; omega) hcap _ (hL.below H3.out hL.two) hs3'.out (i2.out.below H3.out) (fun h0 x hx => Nat.ne_of_lt (l2.out h0 x hx))).mono ?_
  rintro e w3 ⟨rfl, hs4, hg4⟩
  have H4 := hidIt (SR.grown_new H3.out hg4 (Nat.le_refl _))
  have hs4' := hidIt hs4
  clear hs4 hg4
  go_wp2_with (fail)
  refine (smSum_any w.heap.size ([0] ++ xs) (by simp; omega) _ (hL.below H4.out hL.two) hs4'.out).mono ?_
  rintro e w4 ⟨rfl, hb5⟩
  go_wp2_with (fail)
  go_ret
  exact ⟨rfl, below_then H4.out hb5⟩
def mark1 : ByteArray := ⟨#[1]⟩
theorem cat3 (s t : ByteArray) : str (Sh.sum (cat [mark1, s, t])) = Mk.node s t := by
  unfold Mk.node cat
  simp [ofStr, mark1]
theorem cat3_len (s t : ByteArray) : (cat [mark1, s, t]).length = 1 + (s.size + t.size) := by
  have h1 : (ofStr mark1).length = 1 := rfl
  have e : cat [mark1, s, t] = ofStr mark1 ++ (ofStr s ++ ofStr t) := by simp [cat]
  rw [e, List.length_append, List.length_append, h1, ofStr_len, ofStr_len]
theorem node_any (s t : ByteArray) (hbig : s.size + t.size ≤ 140737488354000) (w : World) (hL : Laid w) :
    Calls Tryd.prog 19 #[.string s, .string t] w fun e w' => e = .returned (.string (Mk.node s t)) ∧ Below w.heap.size w w' := by
  go_enter Tryd.func19, Tryd.ntmps19
  go_wp2_with (fail)
  have hbA : Below w.heap.size w (w.alloc (.cells #[.string mark1, .string s, .string t] 9)) := (Below.refl _ _).alloc (Nat.le_refl _) _
  refine (join_any _ 3 [mark1, s, t] (by rw [cat3_len]; omega) (by show 3 ≤ _; decide) _ (hL.below hbA hL.two) (strs_three w mark1 s t)).mono ?_
  rintro e w1 ⟨rfl, hb1⟩
  rw [cat3]
  go_wp2_with (fail)
  go_ret
  exact ⟨rfl, below_then hbA hb1⟩
end Go.Proofs.YtgkomejckbccdaaDoor
