import Derived.Test.YtnkemflpenlmgaaRead
namespace Go.Proofs.Ytnkemflpenlmgaa
open Go.RowKit
theorem wpList_build_is {P : Program} {ops : Array Oper} {rest : List Oper} {o : Oper} {a : Act} {w : World} {Q : Exit → Act → World → Prop} (hg : o.guard = none) (t : TypeId) (parts : Array (Nat × Operand)) (ho : o.op = .build t parts) (cs : Array Value)
    (hf : P.built t (parts.map fun (i, x) => (i, a.eval x)).toList = some cs) (h : wpList P ops Q rest (a.put o.dst (.agg cs)) w) : wpList P ops Q (o :: rest) a w :=
  wpList_build hg t parts ho (by rw [hf]; rfl) (by rw [hf]; exact h)
theorem ofStr_getD_lt (s : ByteArray) (i : Nat) : (ofStr s).getD i 0 < 256 := by
  rw [List.getD_eq_getElem?_getD]
  rcases Nat.lt_or_ge i (ofStr s).length with h | h
  · rw [List.getElem?_eq_getElem h]; exact ofStr_lt s _ (List.getElem_mem h)
  · rw [List.getElem?_eq_none h]; decide
theorem grownBy_trans' {a b c : World} {r : Option Nat} (h : a.grownBy b r) (k : b.grownBy c r) : a.grownBy c r := g_trans h k
theorem zeroSt (w : World) : (zeroValue 41).run Try.prog w = .ok (.agg (rowA .u32 (fun _ => 0) 16 0)) w := by kernel_rfl
theorem infoSt {f : Nat → Nat} : (Try.prog.info? 41).map (·.size) = some (rowA .u32 f 16 16).size := by rw [rowA_size]; kernel_rfl
def c4F (k : Nat) : Nat := [0x61707865, 0x3320646e, 0x79622d32, 0x6b206574].getD k 0
theorem c4_lt (k : Nat) : c4F k < 4294967296 := by
  unfold c4F
  match k with
  | 0 | 1 | 2 | 3 => decide
  | n + 4 => simp
theorem c4_zero {k : Nat} (h : 4 ≤ k) : c4F k = 0 := by
  obtain ⟨n, rfl⟩ : ∃ n, k = n + 4 := ⟨k - 4, by omega⟩
  simp [c4F]
def four : Array Value := ((((rowA .u32 (fun _ => 0) 16 0).setIfInBounds 0 (.int .u32 1634760805)).setIfInBounds 1 (.int .u32 857760878)).setIfInBounds 2 (.int .u32 2036477234)).setIfInBounds 3 (.int .u32 1797285236)
theorem four_is : four = rowA .u32 c4F 16 16 := by
  have e : rowA .u32 (fun _ => 0) 16 0 = rowA .u32 (fun _ => 0) 16 16 := by simp [rowA]
  have h := fun (f : Nat → Nat) k v => rowA_upd .u32 f 16 k v
  unfold four
  rw [e, show (Value.int .u32 1634760805) = .int .u32 ((1634760805 : Nat) : Int) from rfl, h, show (Value.int .u32 857760878) = .int .u32 ((857760878 : Nat) : Int) from rfl, h, show (Value.int .u32 2036477234) = .int .u32 ((2036477234 : Nat) : Int) from rfl, h, show (Value.int .u32 1797285236) = .int .u32 ((1797285236 : Nat) : Int) from rfl, h]
  apply rowA_congr
  intro i _
  match i with
  | 0 => rfl
  | 1 => rfl
  | 2 => rfl
  | 3 => rfl
  | n + 4 => rw [c4_zero (by omega), if_neg (by omega), if_neg (by omega), if_neg (by omega), if_neg (by omega)]
theorem four_size : four.size = 16 := by rw [four_is, rowA_size]
theorem four_one : four.all (·.oneCell') = true := by rw [four_is]; exact rowA_one _ _ _ _
theorem four_info : (Try.prog.info? 41).map (·.size) = some four.size := by rw [four_is]; exact infoSt
theorem list_get (a b c d x k : Nat) (f g : Nat → Nat) (h : k < 16) : ([a, b, c, d] ++ ((List.range 8).map f) ++ [x] ++ ((List.range 3).map g)).getD k 0 =
    if 13 ≤ k then g (k - 13) else if k = 12 then x else if 4 ≤ k then f (k - 4) else [a, b, c, d].getD k 0 := by
  rw [show (List.range 8).map f = [f 0, f 1, f 2, f 3, f 4, f 5, f 6, f 7] from rfl, show (List.range 3).map g = [g 0, g 1, g 2] from rfl]
  have hk : k = 0 ∨ k = 1 ∨ k = 2 ∨ k = 3 ∨ k = 4 ∨ k = 5 ∨ k = 6 ∨ k = 7 ∨ k = 8 ∨ k = 9 ∨ k = 10 ∨ k = 11 ∨ k = 12 ∨ k = 13 ∨ k = 14 ∨ k = 15 := by omega
  rcases hk with rfl | rfl | rfl | rfl | rfl | rfl | rfl | rfl | rfl | rfl | rfl | rfl | rfl | rfl | rfl | rfl <;> rfl
theorem init_get (ks ns : List Nat) (c k : Nat) (h : k < 16) : (Cc.init ks ns c).getD k 0 =
    if 13 ≤ k then Cc.word (fun i => ns.getD i 0) (k - 13) else if k = 12 then c else if 4 ≤ k then Cc.word (fun i => ks.getD i 0) (k - 4) else c4F k := by
  unfold Cc.init c4F
  exact list_get _ _ _ _ c k _ _ h
theorem below_setRow {B g : Nat} {w wr : World} (h : Below B w wr) (hg : B ≤ g) (cs : Array Value) : Below B w (wr.setRow g cs) :=
  h.trans ⟨rfl, rfl, rfl, by simp, fun i hi => setRow_other _ _ i _ (by omega)⟩
theorem grown_below {B g : Nat} {a b c : World} (h : Below B a b) (k : b.grownBy c (some g)) (hB : B ≤ g) (hb : B ≤ b.heap.size) : Below B a c :=
  h.trans ⟨k.os, k.tape, k.output, k.size, fun i hi => k.block i (by omega) (fun e => by cases e; omega)⟩
set_option maxRecDepth 100000 in
theorem begin_any (key nonce : ByteArray) (c : Nat) (hk : key.size = 32) (hn : nonce.size = 12) (hc : c < 4294967296) (w : World) :
    Calls Try.prog 24 #[.string key, .string nonce, .int .u32 c] w fun e w' => e = .returned (.agg (rowA .u32 (fun k => (Cc.init (ofStr key) (ofStr nonce) c).getD k 0) 16 16)) ∧ Below w.heap.size w w' := by
  obtain ⟨ini, hini⟩ : ∃ ini : Nat → Nat, Hid ((fun k => (Cc.init (ofStr key) (ofStr nonce) c).getD k 0) = ini) := ⟨_, rfl⟩
  rw [hini.out]
  have hz := zeroSt
  go_enter Try.func24, Try.ntmps24
  go_wp2_with (refine wpList_store_row rfl 41 _ _ rfl (w.heap.size + 1) four rfl rfl 41 (rowA .u32 (fun _ => 0) 16 0) (by have := heap_alloc_new (w.alloc (.cells (rowA .u32 (fun _ => 0) 16 0) 41)) (.cells (rowA .u32 (fun _ => 0) 16 0) 41); rwa [World.size_alloc] at this) four_info ?c1 four_one ?_)
  case c1 => rw [rowA_size, four_size]
  rw [four_is]
  have hB1 : Hid (Blk (((w.alloc (.cells (rowA .u32 (fun _ => 0) 16 0) 41)).alloc (.cells (rowA .u32 (fun _ => 0) 16 0) 41)).setRow (w.heap.size + 1) (rowA .u32 c4F 16 16)) (w.heap.size + 1) 41 (rowA .u32 c4F 16 16)) := by
    refine setRow_heap _ _ _ _ _ _ (?_ : Blk _ _ _ (rowA .u32 (fun _ => 0) 16 0))
    have := heap_alloc_new (w.alloc (.cells (rowA .u32 (fun _ => 0) 16 0) 41)) (.cells (rowA .u32 (fun _ => 0) 16 0) 41)
    rwa [World.size_alloc] at this
  have hB0 : Hid (Blk (((w.alloc (.cells (rowA .u32 (fun _ => 0) 16 0) 41)).alloc (.cells (rowA .u32 (fun _ => 0) 16 0) 41)).setRow (w.heap.size + 1) (rowA .u32 c4F 16 16)) w.heap.size 41 (rowA .u32 (fun _ => 0) 16 0)) := (setRow_other _ _ _ _ (by omega)).trans ((Blk.new w _ _).alloc _)
  have hb : Hid (Below w.heap.size w (((w.alloc (.cells (rowA .u32 (fun _ => 0) 16 0) 41)).alloc (.cells (rowA .u32 (fun _ => 0) 16 0) 41)).setRow (w.heap.size + 1) (rowA .u32 c4F 16 16))) :=
    below_setRow (((Below.refl _ _).alloc (Nat.le_refl _) _).alloc (by simp) _) (by omega) _
  generalize (((w.alloc (.cells (rowA .u32 (fun _ => 0) 16 0) 41)).alloc (.cells (rowA .u32 (fun _ => 0) 16 0) 41)).setRow (w.heap.size + 1) (rowA .u32 c4F 16 16)) = w1 at *
  generalize hBk : w.heap.size + 1 = B at *
  refine (read_any B 4 8 key c4F hk (by omega) c4_lt (fun k h _ => c4_zero h) w1 hB1.out).mono ?_
  rintro e w2 ⟨rfl, hB2, hg2⟩
  obtain ⟨F, hF⟩ : ∃ F : Nat → Nat, Hid (∀ k, F k = if 4 ≤ k ∧ k < 4 + 8 then Cc.word (fun i => (ofStr key).getD i 0) (k - 4) else c4F k) := ⟨_, fun _ => rfl⟩
  rw [rowA_congr (fun k _ => (hF.out k).symm)] at hB2
  have cc := hB2.cell 12
  have cf := hB2.frozen 12
  rw [rowA_all _ _ _ _ (by omega)] at cc
  have hB2' := hidIt hB2
  have hg2' := hidIt hg2
  clear hB2 hg2
  go_wp2_with (fail)
  have hB3 := hB2'.out.set_ 12 (.int .u32 c)
  rw [rowA_upd] at hB3
  have hg3 := g_set (R := B) (i := 12) (v := .int .u32 c) hg2'.out
  generalize w2.setCell ⟨B, 12, none⟩ (.int .u32 c) = w3 at *
  clear cc cf
  have hF3 : ∀ k, (if k = 12 then c else F k) < 4294967296 := by
    intro k
    split
    · exact hc
    · rw [hF.out]
      split
      · exact Cc.word_lt (fun i => ofStr_getD_lt key i) _
      · exact c4_lt k
  refine (read_any B 13 3 nonce _ hn (by omega) hF3 (fun k h _ => by
    rw [hF.out, if_neg (by omega), if_neg (by omega), c4_zero (by omega)]) w3 hB3).mono ?_
  rintro e w4 ⟨rfl, hB4, hg4⟩
  have hfin : Blk w4 B 41 (rowA .u32 (fun k => (Cc.init (ofStr key) (ofStr nonce) c).getD k 0) 16 16) := by
    rw [rowA_congr (fun k hk => init_get _ _ _ k hk)]
    refine (congrArg (fun cs => Blk w4 B 41 cs) (rowA_congr (fun k hk => ?_))).mp hB4
    · show (if 13 ≤ k ∧ k < 13 + 3 then _ else if k = 12 then c else F k) = if 13 ≤ k then _ else if k = 12 then c else if 4 ≤ k then _ else c4F k
      rw [hF.out]
      by_cases h13 : 13 ≤ k
      · rw [if_pos ⟨h13, by omega⟩, if_pos h13]
      · rw [if_neg (by omega), if_neg h13]
        by_cases h12 : k = 12
        · rw [if_pos h12, if_pos h12]
        · rw [if_neg h12, if_neg h12]
          by_cases h4 : 4 ≤ k
          · rw [if_pos ⟨h4, by omega⟩, if_pos h4]
          · rw [if_neg (by omega), if_neg h4]
  have hBl : Hid (Below w.heap.size w w4) := grown_below hb.out (grownBy_trans' hg3 hg4) (by omega) hb.out.size
  have hR0 : Hid (Blk w4 w.heap.size 41 (rowA .u32 (fun _ => 0) 16 0)) := hB0.out.grown (grownBy_trans' hg3 hg4) (by simp; omega)
  have hfin' := hidIt hfin
  rw [hini.out] at hfin'
  clear hfin hB4 hg4 hg3 hB3 hF3
  go_wp2_with (first | (refine wpList_load_row rfl 41 _ rfl B rfl 41 (rowA .u32 ini 16 16) (0, 0) _ hfin'.out Try.underlying41 rfl infoSt ?_) | (refine wpList_store_row rfl 41 _ _ rfl w.heap.size (rowA .u32 ini 16 16) rfl rfl 41 (rowA .u32 (fun _ => 0) 16 0) hR0.out infoSt ?c1 (rowA_one _ _ _ _) ?_))
  case c1 => rw [rowA_size, rowA_size]
  exact bodyPost_ret (v := .agg (rowA .u32 ini 16 16)) (results_cell_row (g := w.heap.size) Try.results24 _ _ _ _ _ _ rfl (setRow_heap _ _ _ _ _ _ hR0.out) Try.underlying41 rfl infoSt) rfl ⟨rfl, below_setRow hBl.out (Nat.le_refl _) _⟩
end Go.Proofs.Ytnkemflpenlmgaa
