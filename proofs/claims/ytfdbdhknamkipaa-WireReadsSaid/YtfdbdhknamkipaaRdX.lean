import Derived.Test.YtfdbdhknamkipaaRdT
namespace Go.Proofs.Ytfdbdhknamkipaa
open Go.RowKit
/-- a read of the reference: the value, and the place, the place before, the error behind it -/
def xstep (bs : List Nat) (kind most : Int) (pos last err : Nat) : RV × Nat × Nat × Nat :=
  if err ≠ 0 then (zeroV kind most, pos, last, err)
  else if kind = 0 then (zeroV kind most, last, last, 3)
  else match rdV bs kind most pos with
    | .inl er => (zeroV kind most, pos, last, er)
    | .inr (v, p) => (v, p, pos, 0)
def XPost (X : Nat) (a : Option Addr) (cap : Nat) (bs : List Nat) (w : World) (q : RV × Nat × Nat × Nat) (e : Ending) (w' : World) : Prop :=
  e = .returned q.1.val ∧ RX w' X a cap bs q.2.1 q.2.2.1 q.2.2.2 ∧ w.grownBy w' (some X)
set_option maxRecDepth 100000 in
set_option maxHeartbeats 4000000 in
theorem refRead_err (X : Nat) (a : Option Addr) (cap : Nat) (bs : List Nat) (pos last err : Nat) (kind most : Int) (he : err ≠ 0) (w : World) (h : RX w X a cap bs pos last err) :
    Calls Try.prog 17 #[.pointer (some ⟨X, 0, none⟩), .int .i64 kind, .int .i64 most] w (XPost X a cap bs w (zeroV kind most, pos, last, err)) := by
  have hx := h.below (below_two w (.cells #[.int .i64 0, .int .u64 0, .int .i64 0, .bool false, .string ⟨#[]⟩, .int .i64 0] 37) (.cells #[.int .i64 kind, .int .u64 0, .int .i64 0, .bool false, .string ⟨#[]⟩, .int .i64 most] 37))
  obtain ⟨-, -, -, c3, -, -, -⟩ := hx.c
  have hh := hidIt h
  have t1 : ¬ (err : Int) = 0 := by omega
  clear h hx
  go_enter Try.func17, Try.ntmps17
  go_wp2_with (fail)
  refine ⟨rfl, _, results_cell_row rfl _ _ w.heap.size _ _ _ _ rfl ((row_under _ _ _).trans (heap_alloc_new _ _)) Try.underlying37 rfl (by kernel_rfl), ?_⟩
  exact ⟨rfl, hh.out.below (below_two _ _ _), g_below (below_two _ _ _)⟩
/-- a load pauses: the world gets a name -/
theorem wpList_pause {P : Program} {ops : Array Oper} {rest : List Oper} {o : Oper} {act : Act} {Q : Exit → Act → World → Prop} {W : World} (t : TypeId) {p : Operand} (_ho : o.op = .load t p)
    (h : ∀ W', Hid (W = W') → wpList P ops Q (o :: rest) act W') : wpList P ops Q (o :: rest) act W := h W rfl
/-- the two boxes of a read are laid -/
structure Laid2 (w w5 : World) (X : Nat) (a : Option Addr) (cap : Nat) (bs : List Nat) (pos last err : Nat) (kind most : Int) : Prop where
  rx : RX w5 X a cap bs pos last err
  t0 : w5.heap[w.heap.size]? = some (.cells #[.int .i64 0, .int .u64 0, .int .i64 0, .bool false, .string ⟨#[]⟩, .int .i64 0] 37)
  t1 : w5.heap[w.heap.size + 1]? = some (.cells #[.int .i64 kind, .int .u64 0, .int .i64 0, .bool false, .string ⟨#[]⟩, .int .i64 most] 37)
  bel : Below w.heap.size w w5
  lt : X < w.heap.size
theorem laid2 {w w5 : World} {X : Nat} {a : Option Addr} {cap : Nat} {bs : List Nat} {pos last err : Nat} {kind most : Int} (h : RX w X a cap bs pos last err) (hw : (w.alloc (.cells #[.int .i64 0, .int .u64 0, .int .i64 0, .bool false, .string ⟨#[]⟩, .int .i64 0] 37)).alloc (.cells #[.int .i64 kind, .int .u64 0, .int .i64 0, .bool false, .string ⟨#[]⟩, .int .i64 most] 37) = w5) : Laid2 w w5 X a cap bs pos last err kind most := by
  subst hw
  exact ⟨h.below (below_two w _ _), (row_under w _ _).trans (heap_alloc_new w _), by rw [← World.size_alloc w (.cells #[.int .i64 0, .int .u64 0, .int .i64 0, .bool false, .string ⟨#[]⟩, .int .i64 0] 37)]; exact heap_alloc_new _ _, below_two w _ _, lt_of_row h.row⟩
theorem RX.step {w w' : World} {X : Nat} {a : Option Addr} {cap : Nat} {bs : List Nat} {pos last err pos' last' err' : Nat} (h : RX w X a cap bs pos last err) (hg : w.grownBy w' (some X)) (hr : w'.heap[X]? = some (.cells #[.slice a bs.length cap, .int .i64 pos', .int .i64 last', .int .i64 err'] 34 (0, 0))) (hp : pos' ≤ bs.length) (hl : last' ≤ bs.length) : RX w' X a cap bs pos' last' err' :=
  ⟨hr, fun i hi => by
    obtain ⟨b, off, h1, h2⟩ := h.by' i hi
    have hb := bytes_lt h2
    have hne : b ≠ X := by
      rcases h.ne _ h1 with h3 | h3
      · exact Nat.ne_of_lt h3
      · omega
    exact ⟨b, off, h1, (World.cell?_of_block (a := ⟨b, off + i, none⟩) (hg.block b hb (fun e => by cases e; exact hne rfl))).trans h2⟩, h.ne, hp, hl⟩
theorem below_setRow {B A : Nat} {w W : World} {cs : Array Value} (h : Below B w W) (hA : B ≤ A) : Below B w (W.setRow A cs) :=
  h.trans ⟨rfl, rfl, rfl, by simp, fun k hk => setRow_other _ _ k _ (by omega)⟩
theorem fin6 {w W : World} {X S : Nat} {a : Option Addr} {cap : Nat} {bs : List Nat} {pos last err pos' last' err' : Nat} {x0 x1 x2 x3 x4 x5 : Value} (h : RX w X a cap bs pos last err) (hS : w.heap.size = S) (hg : w.grownBy W (some X)) (hr : W.heap[X]? = some (.cells #[.slice a bs.length cap, .int .i64 pos', .int .i64 last', .int .i64 err'] 34 (0, 0))) (hp : pos' ≤ bs.length) (hl : last' ≤ bs.length) :
    RX ((((((W.setCell ⟨S, 0, none⟩ x0).setCell ⟨S, 1, none⟩ x1).setCell ⟨S, 2, none⟩ x2).setCell ⟨S, 3, none⟩ x3).setCell ⟨S, 4, none⟩ x4).setCell ⟨S, 5, none⟩ x5) X a cap bs pos' last' err' ∧ w.grownBy ((((((W.setCell ⟨S, 0, none⟩ x0).setCell ⟨S, 1, none⟩ x1).setCell ⟨S, 2, none⟩ x2).setCell ⟨S, 3, none⟩ x3).setCell ⟨S, 4, none⟩ x4).setCell ⟨S, 5, none⟩ x5) (some X) := by
  have hle : w.heap.size ≤ S := Nat.le_of_eq hS
  have hX : X < S := by rw [← hS]; exact lt_of_row h.row
  have hXS : ∀ (V : World) (i : Nat) (x : Value), (V.setCell ⟨S, i, none⟩ x).heap[X]? = V.heap[X]? := fun V i x => heap_setCell_other V ⟨S, i, none⟩ X x (fun e => by have : X = S := e; omega)
  have G := g_set_new (i := 5) (v := x5) (g_set_new (i := 4) (v := x4) (g_set_new (i := 3) (v := x3) (g_set_new (i := 2) (v := x2) (g_set_new (i := 1) (v := x1) (g_set_new (i := 0) (v := x0) hg hle) hle) hle) hle) hle) hle
  exact ⟨h.step G (by rw [hXS, hXS, hXS, hXS, hXS, hXS]; exact hr) hp hl, G⟩
theorem Laid2.below {w W W' : World} {X : Nat} {a : Option Addr} {cap : Nat} {bs : List Nat} {pos last err : Nat} {kind most : Int} (h : Laid2 w W X a cap bs pos last err kind most) (hb : Below W.heap.size W W') : Laid2 w W' X a cap bs pos last err kind most :=
  ⟨h.rx.below hb, (hb.block _ (lt_of_row h.t0)).trans h.t0, (hb.block _ (lt_of_row h.t1)).trans h.t1, below_then h.bel hb, h.lt⟩
theorem below_row (W : World) (o : Obj) (cs : Array Value) : Below W.heap.size W ((W.alloc o).setRow W.heap.size cs) :=
  ⟨rfl, rfl, rfl, by simp, fun k hk => (setRow_other _ _ k _ (by omega)).trans (Below.heap_alloc W o k hk)⟩
set_option maxRecDepth 100000 in
set_option maxHeartbeats 4000000 in
theorem refRead_0 (X : Nat) (a : Option Addr) (cap : Nat) (bs : List Nat) (pos last : Nat) (most : Int) (w : World) (h : RX w X a cap bs pos last 0) :
    Calls Try.prog 17 #[.pointer (some ⟨X, 0, none⟩), .int .i64 0, .int .i64 most] w (XPost X a cap bs w (zeroV 0 most, last, last, 3)) := by
  have hh := hidIt h
  clear h
  go_enter Try.func17, Try.ntmps17
  go_wp2_with (refine wpList_pause 26 rfl ?_)
  intro w5 hw5
  have L := laid2 (kind := 0) (most := most) hh.out hw5.out
  have Lh := hidIt L
  obtain ⟨-, x1, x2, x3, g1, -, g3⟩ := L.rx.c
  have hXS := L.lt
  obtain ⟨c10, c11, c12, c13, c14, c15, f10, f11, f12, f13, f14, f15, c00, c01, c02, c03, c04, c05, f00, f01, f02, f03, f04, f05⟩ := two_of L.t0 L.t1
  have hS0 : ¬ X = w.heap.size := by omega
  have hS1 : ¬ X = w.heap.size + 1 := by omega
  have hS2 : ¬ w.heap.size = X := by omega
  have hS3 : ¬ w.heap.size + 1 = X := by omega
  clear L hw5
  generalize hS : w.heap.size = S at *
  go_wp2_with (fail)
  have L := Lh.out
  have u0 := heap_setCell_same _ X 3 _ _ (.int .i64 3) L.rx.row
  have u1 := heap_setCell_same _ X 1 _ _ (.int .i64 last) u0
  have e0 := (heap_setCell_other _ ⟨X, 1, none⟩ S (.int .i64 last) (fun e => by have : S = X := e; omega)).trans ((heap_setCell_other w5 ⟨X, 3, none⟩ S (.int .i64 3) (fun e => by have : S = X := e; omega)).trans (hS ▸ L.t0))
  have e1 := heap_setCell_same _ S 0 _ _ (.int .i64 0) e0
  have e2 := heap_setCell_same _ S 1 _ _ (.int .u64 0) e1
  have e3 := heap_setCell_same _ S 2 _ _ (.int .i64 0) e2
  have e4 := heap_setCell_same _ S 3 _ _ (.bool false) e3
  have e5 := heap_setCell_same _ S 4 _ _ (.string ⟨#[]⟩) e4
  have e6 := heap_setCell_same _ S 5 _ _ (.int .i64 most) e5
  refine ⟨rfl, _, results_cell_row rfl _ _ S _ _ _ _ rfl e6 Try.underlying37 rfl (by kernel_rfl), ?_⟩
  obtain ⟨F1, F2⟩ := fin6 hh.out hS (g_set (i := 1) (v := .int .i64 last) (g_set (i := 3) (v := .int .i64 3) (g_below (hS.symm ▸ L.bel)))) u1 L.rx.lastle L.rx.lastle
  exact ⟨rfl, F1, F2⟩
set_option maxRecDepth 100000 in
set_option maxHeartbeats 8000000 in
theorem refRead_k (X : Nat) (a : Option Addr) (cap : Nat) (bs : List Nat) (pos last : Nat) (kind most : Int) (k1 : 1 ≤ kind) (k7 : kind ≤ 7) (hm2 : most ≤ 9223372036854775807) (hsz : bs.length ≤ 1000) (hcap : bs.length ≤ cap) (hlt : ∀ x ∈ bs, x < 256) (w : World) (h : RX w X a cap bs pos last 0) :
    Calls Try.prog 17 #[.pointer (some ⟨X, 0, none⟩), .int .i64 kind, .int .i64 most] w (XPost X a cap bs w (xstep bs kind most pos last 0)) := by
  have hh := hidIt h
  have hrd : Hid (∀ W, Laid2 w W X a cap bs pos last 0 kind most → Calls Try.prog 39 #[.slice a bs.length cap, .int .i64 pos, .int .i64 kind, .int .i64 most] W fun e w' => e = readE (readV bs kind most pos) ∧ Below W.heap.size W w') := fun W hW => refread_any a cap bs pos kind most k1 k7 hm2 h.le hsz hcap hlt W hW.rx.by'
  have kne : ¬ kind = 0 := by omega
  have hxs : Hid (xstep bs kind most pos last 0 = (if (readV bs kind most pos).2.2 = 0 then ((readV bs kind most pos).1, (readV bs kind most pos).2.1, pos, 0) else (zeroV kind most, pos, last, (readV bs kind most pos).2.2))) := by
    show _ = _
    unfold xstep readV
    rw [if_neg (by simp), if_neg kne]
    cases hv : rdV bs kind most pos with
    | inl er =>
      have := rdV_err hv
      show _ = if er = 0 then _ else _
      rw [if_neg this]
    | inr q =>
      obtain ⟨v, p⟩ := q
      rfl
  have hple : Hid ((readV bs kind most pos).2.1 ≤ bs.length) := by
    show _ ≤ _
    unfold readV
    cases hv : rdV bs kind most pos with
    | inl er => exact h.le
    | inr q =>
      obtain ⟨v, p⟩ := q
      exact (rdV_ok hlt h.le hsz hm2 k1 k7 hv).hi
  obtain ⟨⟨⟨kd, uu, un, ub, us, um⟩, p', er⟩, hq⟩ : ∃ q, Hid (readV bs kind most pos = q) := ⟨_, rfl⟩
  rw [hq.out] at hrd hxs hple
  simp only [readE, RV.val] at hrd hxs hple
  clear h hq k1 k7 hlt hsz hcap hm2
  go_enter Try.func17, Try.ntmps17
  go_wp2_with (refine wpList_pause 26 rfl ?_)
  intro w5 hw5
  have L := laid2 (kind := kind) (most := most) hh.out hw5.out
  have Lh := hidIt L
  obtain ⟨-, -, -, x3, -, -, -⟩ := L.rx.c
  clear L hw5
  generalize hS : w.heap.size = S at *
  go_wp2_with (fail)
  refine wp_region_held_drew (S := (fun W : World => Laid2 w W X a cap bs pos last 0 kind most)) (by kernel_rfl) (Lh.out.below (below_drewN (Below.refl _ _) 1)) (fun hHeld => ?_)
  refine wpAnyH_take_at (i := 0) (some 34) (.pointer (some ⟨X, 0, none⟩)) rfl rfl (by kernel_rfl) (by kernel_rfl) (by kernel_rfl) (fun _ _ _ h => h) (Or.inl ⟨by rfl, ?_⟩) hHeld ?_
  · (intro W hSw; clear hSw hHeld; go_simp)
  simp only [Act.put, List.setIfInBounds_toArray, List.set_cons_zero, List.set_cons_succ]
  refine wpAnyH_take_at (i := 1) (some 35) (.pointer (some ⟨X, 0, none⟩)) rfl rfl (by kernel_rfl) (by kernel_rfl) (by kernel_rfl) (fun _ _ _ h => h) (Or.inl ⟨by rfl, ?_⟩) hHeld ?_
  · (intro W hSw; clear hSw hHeld; go_simp)
  simp only [Act.put, List.setIfInBounds_toArray, List.set_cons_zero, List.set_cons_succ]
  refine wpAnyH_take_at (i := 2) (some 36) (.pointer (some ⟨X, 0, none⟩)) rfl rfl (by kernel_rfl) (by kernel_rfl) (by kernel_rfl) (fun _ _ _ h => h) (Or.inl ⟨by rfl, ?_⟩) hHeld ?_
  · (intro W hSw; clear hSw hHeld; go_simp)
  simp only [Act.put, List.setIfInBounds_toArray, List.set_cons_zero, List.set_cons_succ]
  refine wpAnyH_take_at (i := 3) (some 37) (.slice a bs.length cap) rfl rfl (by kernel_rfl) (by kernel_rfl) (by kernel_rfl) (fun _ _ _ h => h) (Or.inl ⟨by rfl, ?_⟩) hHeld ?_
  · (intro W hSw; obtain ⟨y0, y1, -, -, -, -, -⟩ := hSw.rx.c; clear hSw hHeld; go_simp)
  simp only [Act.put, List.setIfInBounds_toArray, List.set_cons_zero, List.set_cons_succ]
  refine wpAnyH_take_at (i := 4) (some 38) (.pointer (some ⟨X, 0, none⟩)) rfl rfl (by kernel_rfl) (by kernel_rfl) (by kernel_rfl) (fun _ _ _ h => h) (Or.inl ⟨by rfl, ?_⟩) hHeld ?_
  · (intro W hSw; clear hSw hHeld; go_simp)
  simp only [Act.put, List.setIfInBounds_toArray, List.set_cons_zero, List.set_cons_succ]
  refine wpAnyH_take_at (i := 5) (some 39) (.pointer (some ⟨X, 0, none⟩)) rfl rfl (by kernel_rfl) (by kernel_rfl) (by kernel_rfl) (fun _ _ _ h => h) (Or.inl ⟨by rfl, ?_⟩) hHeld ?_
  · (intro W hSw; clear hSw hHeld; go_simp)
  simp only [Act.put, List.setIfInBounds_toArray, List.set_cons_zero, List.set_cons_succ]
  refine wpAnyH_take_at (i := 6) (some 40) (.pointer (some ⟨X, 1, none⟩)) rfl rfl (by kernel_rfl) (by kernel_rfl) (by kernel_rfl) (fun _ _ _ h => h) (Or.inl ⟨by rfl, ?_⟩) hHeld ?_
  · (intro W hSw; clear hSw hHeld; go_simp)
  simp only [Act.put, List.setIfInBounds_toArray, List.set_cons_zero, List.set_cons_succ]
  refine wpAnyH_take_at (i := 7) (some 41) (.int .i64 pos) rfl rfl (by kernel_rfl) (by kernel_rfl) (by kernel_rfl) (fun _ _ _ h => h) (Or.inl ⟨by rfl, ?_⟩) hHeld ?_
  · (intro W hSw; obtain ⟨y0, y1, -, -, -, -, -⟩ := hSw.rx.c; clear hSw hHeld; go_simp)
  simp only [Act.put, List.setIfInBounds_toArray, List.set_cons_zero, List.set_cons_succ]
  refine wpAnyH_take_at (i := 8) (some 42) (.int .i64 kind) rfl rfl (by kernel_rfl) (by kernel_rfl) (by kernel_rfl) (fun _ _ _ h => h) (Or.inl ⟨by rfl, ?_⟩) hHeld ?_
  · (intro W hSw; clear hSw hHeld; go_simp)
  simp only [Act.put, List.setIfInBounds_toArray, List.set_cons_zero, List.set_cons_succ]
  refine wpAnyH_take_at (i := 9) (some 43) (.int .i64 most) rfl rfl (by kernel_rfl) (by kernel_rfl) (by kernel_rfl) (fun _ _ _ h => h) (Or.inl ⟨by rfl, ?_⟩) hHeld ?_
  · (intro W hSw; clear hSw hHeld; go_simp)
  simp only [Act.put, List.setIfInBounds_toArray, List.set_cons_zero, List.set_cons_succ]
  refine wpAnyH_two (i := 10) (j := 15) (by kernel_rfl) rfl rfl rfl rfl (fun K hK => ?_) (fun K hK => ?_)
  · go_simp
    go_at_call 39
    refine (hrd.out _ hHeld).mono ?_
    rintro e w6 ⟨rfl, hb6⟩
    have L6 := hHeld.below hb6
    refine hK.out _ _ L6 ?_
    clear hK K
    refine wpAnyH_take_at (i := 11) (some 33) (.tuple #[.agg #[.int .i64 kd, .int .u64 uu, .int .i64 un, .bool ub, .string us, .int .i64 um], .int .i64 p', .int .i64 er]) rfl rfl (by kernel_rfl) (by kernel_rfl) (by kernel_rfl) (fun _ _ _ h => h) (Or.inl ⟨by rfl, ?_⟩) L6 ?_
    · (intro W hSw; clear hSw; go_simp)
    simp only [Act.put, List.setIfInBounds_toArray, List.set_cons_zero, List.set_cons_succ]
    refine wpAnyH_take_at (i := 12) (some 45) (.agg #[.int .i64 kd, .int .u64 uu, .int .i64 un, .bool ub, .string us, .int .i64 um]) rfl rfl (by kernel_rfl) (by kernel_rfl) (by kernel_rfl) (fun _ _ _ h => h) (Or.inl ⟨by rfl, ?_⟩) L6 ?_
    · (intro W hSw; clear hSw; go_simp)
    simp only [Act.put, List.setIfInBounds_toArray, List.set_cons_zero, List.set_cons_succ]
    refine wpAnyH_take_at (i := 13) (some 46) (.int .i64 p') rfl rfl (by kernel_rfl) (by kernel_rfl) (by kernel_rfl) (fun _ _ _ h => h) (Or.inl ⟨by rfl, ?_⟩) L6 ?_
    · (intro W hSw; clear hSw; go_simp)
    simp only [Act.put, List.setIfInBounds_toArray, List.set_cons_zero, List.set_cons_succ]
    refine wpAnyH_take_at (i := 14) (some 47) (.int .i64 er) rfl rfl (by kernel_rfl) (by kernel_rfl) (by kernel_rfl) (fun _ _ _ h => h) (Or.inl ⟨by rfl, ?_⟩) L6 ?_
    · (intro W hSw; clear hSw; go_simp)
    simp only [Act.put, List.setIfInBounds_toArray, List.set_cons_zero, List.set_cons_succ]
    refine wpAnyH_only (i := 15) (by kernel_rfl) rfl rfl (fun K hK => ?_)
    go_simp
    refine hK.out _ _ (L6.below ((Below.refl _ _).alloc (Nat.le_refl _) _)) ?_
    clear hK K
    refine wpAnyH_only (i := 16) (by kernel_rfl) rfl rfl (fun K hK => ?_)
    refine wp_store_row 37 _ _ rfl _ #[.int .i64 kd, .int .u64 uu, .int .i64 un, .bool ub, .string us, .int .i64 um] rfl rfl 37 #[.int .i64 0, .int .u64 0, .int .i64 0, .bool false, .string ByteArray.empty, .int .i64 0] (heap_alloc_new w6 (.cells #[.int .i64 0, .int .u64 0, .int .i64 0, .bool false, .string ByteArray.empty, .int .i64 0] 37)) infoV6 rfl (by simp [Value.oneCell']) ?_
    have L9 := L6.below (below_row w6 (.cells #[.int .i64 0, .int .u64 0, .int .i64 0, .bool false, .string ByteArray.empty, .int .i64 0] 37) #[.int .i64 kd, .int .u64 uu, .int .i64 un, .bool ub, .string us, .int .i64 um])
    have row9 := setRow_heap _ _ _ #[.int .i64 kd, .int .u64 uu, .int .i64 un, .bool ub, .string us, .int .i64 um] _ _ (heap_alloc_new w6 (.cells #[.int .i64 0, .int .u64 0, .int .i64 0, .bool false, .string ByteArray.empty, .int .i64 0] 37))
    refine hK.out _ _ L9 ?_
    clear hK K hHeld
    refine wpAnyH_take_at (i := 17) (some 9) (.int .i64 p') rfl rfl (by kernel_rfl) (by kernel_rfl) (by kernel_rfl) (fun _ _ _ h => h) (Or.inl ⟨by rfl, ?_⟩) L9 ?_
    · (intro W hSw; clear hSw; go_simp)
    simp only [Act.put, List.setIfInBounds_toArray]
    refine wpAnyH_take_at (i := 18) (some 10) (.int .i64 er) rfl rfl (by kernel_rfl) (by kernel_rfl) (by kernel_rfl) (fun _ _ _ h => h) (Or.inl ⟨by rfl, ?_⟩) L9 ?_
    · (intro W hSw; clear hSw; go_simp)
    simp only [Act.put]
    refine wpAnyH_done (by kernel_rfl) ?_ _
    have hSA : S < w6.heap.size := by rw [← hS]; exact lt_of_row L6.t0
    obtain ⟨A, hA⟩ : ∃ A, Hid (w6.heap.size = A) := ⟨_, rfl⟩
    obtain ⟨W9, hW9⟩ : ∃ W9, Hid ((w6.alloc (.cells #[.int .i64 0, .int .u64 0, .int .i64 0, .bool false, .string ByteArray.empty, .int .i64 0] 37)).setRow w6.heap.size #[.int .i64 kd, .int .u64 uu, .int .i64 un, .bool ub, .string us, .int .i64 um] = W9) := ⟨_, rfl⟩
    try rw [show (ByteArray.mk #[]) = ByteArray.empty from rfl]
    rw [hW9.out] at L9 row9 ⊢
    rw [hA.out] at row9 hSA ⊢
    clear hW9 hA L6
    clear hrd Lh
    obtain ⟨y0, y1, y2, y3, g1, g2, g3⟩ := L9.rx.c
    have L9h := hidIt L9
    have t0' := L9.t0
    rw [hS] at t0'
    have t1' := L9.t1
    rw [hS] at t1'
    have t0h := hidIt t0'
    obtain ⟨c10, c11, c12, c13, c14, c15, f10, f11, f12, f13, f14, f15, c00, c01, c02, c03, c04, c05, f00, f01, f02, f03, f04, f05⟩ := two_of t0' t1'
    clear t0' t1'
    have a0 : W9.cell? ⟨A, 0, none⟩ = some (.int .i64 kd) := by rw [cell_of_row W9 A 0 _ _ _ row9]; rfl
    have a1 : W9.cell? ⟨A, 1, none⟩ = some (.int .u64 uu) := by rw [cell_of_row W9 A 1 _ _ _ row9]; rfl
    have a2 : W9.cell? ⟨A, 2, none⟩ = some (.int .i64 un) := by rw [cell_of_row W9 A 2 _ _ _ row9]; rfl
    have a3 : W9.cell? ⟨A, 3, none⟩ = some (.bool ub) := by rw [cell_of_row W9 A 3 _ _ _ row9]; rfl
    have a4 : W9.cell? ⟨A, 4, none⟩ = some (.string us) := by rw [cell_of_row W9 A 4 _ _ _ row9]; rfl
    have a5 : W9.cell? ⟨A, 5, none⟩ = some (.int .i64 um) := by rw [cell_of_row W9 A 5 _ _ _ row9]; rfl
    have hS0 : ¬ X = S := by have := L9.lt; omega
    have hS1 : ¬ X = S + 1 := by have := L9.lt; omega
    have hS2 : ¬ S = X := by omega
    have hS3 : ¬ S + 1 = X := by omega
    have hA0 : ¬ A = X := by have := L9.lt; have := hSA; omega
    have hA1 : ¬ X = A := by omega
    have row9h := hidIt row9
    clear L9 row9
    by_cases her : er = 0
    · subst her
      rw [if_pos rfl] at hxs
      go_wp2_with (fail)
      have u0 := heap_setCell_same _ X 2 _ _ (.int .i64 pos) L9h.out.rx.row
      have u1 := heap_setCell_same _ X 1 _ _ (.int .i64 p') u0
      have e0 := (heap_setCell_other _ ⟨X, 1, none⟩ S (.int .i64 p') (fun e => by have : S = X := e; omega)).trans ((heap_setCell_other W9 ⟨X, 2, none⟩ S (.int .i64 pos) (fun e => by have : S = X := e; omega)).trans t0h.out)
      have e1 := heap_setCell_same _ S 0 _ _ (.int .i64 kd) e0
      have e2 := heap_setCell_same _ S 1 _ _ (.int .u64 uu) e1
      have e3 := heap_setCell_same _ S 2 _ _ (.int .i64 un) e2
      have e4 := heap_setCell_same _ S 3 _ _ (.bool ub) e3
      have e5 := heap_setCell_same _ S 4 _ _ (.string us) e4
      have e6 := heap_setCell_same _ S 5 _ _ (.int .i64 um) e5
      refine ⟨rfl, _, results_cell_row rfl _ _ S _ _ _ _ rfl e6 Try.underlying37 rfl (by kernel_rfl), ?_⟩
      obtain ⟨F1, F2⟩ := fin6 hh.out hS (g_set (i := 1) (v := .int .i64 p') (g_set (i := 2) (v := .int .i64 pos) (g_below L9h.out.bel))) u1 hple.out hh.out.le
      unfold XPost
      rw [hxs.out]
      exact ⟨rfl, F1, F2⟩
    · have t1 : ¬ (er : Int) = 0 := by omega
      rw [if_neg her] at hxs
      go_wp2_with (fail)
      have u0 := heap_setCell_same _ X 3 _ _ (.int .i64 er) L9h.out.rx.row
      have e0 := (heap_setCell_other W9 ⟨X, 3, none⟩ S (.int .i64 er) (fun e => by have : S = X := e; omega)).trans t0h.out
      have e1 := heap_setCell_same _ S 0 _ _ (.int .i64 kind) e0
      have e2 := heap_setCell_same _ S 1 _ _ (.int .u64 0) e1
      have e3 := heap_setCell_same _ S 2 _ _ (.int .i64 0) e2
      have e4 := heap_setCell_same _ S 3 _ _ (.bool false) e3
      have e5 := heap_setCell_same _ S 4 _ _ (.string ⟨#[]⟩) e4
      have e6 := heap_setCell_same _ S 5 _ _ (.int .i64 most) e5
      refine ⟨rfl, _, results_cell_row rfl _ _ S _ _ _ _ rfl e6 Try.underlying37 rfl (by kernel_rfl), ?_⟩
      obtain ⟨F1, F2⟩ := fin6 hh.out hS (g_set (i := 3) (v := .int .i64 er) (g_below L9h.out.bel)) u0 hh.out.le hh.out.lastle
      unfold XPost
      rw [hxs.out]
      exact ⟨rfl, F1, F2⟩
  · go_simp
    have L6 := hHeld.below ((Below.refl _ _).alloc (Nat.le_refl _) (.cells #[.int .i64 0, .int .u64 0, .int .i64 0, .bool false, .string ByteArray.empty, .int .i64 0] 37))
    refine hK.out _ _ L6 ?_
    clear hK K
    refine wpAnyH_only (i := 10) (by kernel_rfl) rfl rfl (fun K hK => ?_)
    go_simp
    go_at_call 39
    refine (hrd.out _ L6).mono ?_
    rintro e w7 ⟨rfl, hb7⟩
    have L7 := L6.below hb7
    have row7 : w7.heap[w5.drew.heap.size]? = some (.cells #[.int .i64 0, .int .u64 0, .int .i64 0, .bool false, .string ByteArray.empty, .int .i64 0] 37 (0, 0)) := (hb7.block w5.drew.heap.size (by simp)).trans (heap_alloc_new w5.drew (.cells #[.int .i64 0, .int .u64 0, .int .i64 0, .bool false, .string ByteArray.empty, .int .i64 0] 37))
    have B7 : Below w5.drew.heap.size w5.drew w7 := below_then ((Below.refl _ _).alloc (Nat.le_refl _) (.cells #[.int .i64 0, .int .u64 0, .int .i64 0, .bool false, .string ByteArray.empty, .int .i64 0] 37)) hb7
    refine hK.out _ _ L7 ?_
    clear hK K
    refine wpAnyH_take_at (i := 11) (some 33) (.tuple #[.agg #[.int .i64 kd, .int .u64 uu, .int .i64 un, .bool ub, .string us, .int .i64 um], .int .i64 p', .int .i64 er]) rfl rfl (by kernel_rfl) (by kernel_rfl) (by kernel_rfl) (fun _ _ _ h => h) (Or.inl ⟨by rfl, ?_⟩) L7 ?_
    · (intro W hSw; clear hSw; go_simp)
    simp only [Act.put, List.setIfInBounds_toArray, List.set_cons_zero, List.set_cons_succ]
    refine wpAnyH_take_at (i := 12) (some 45) (.agg #[.int .i64 kd, .int .u64 uu, .int .i64 un, .bool ub, .string us, .int .i64 um]) rfl rfl (by kernel_rfl) (by kernel_rfl) (by kernel_rfl) (fun _ _ _ h => h) (Or.inl ⟨by rfl, ?_⟩) L7 ?_
    · (intro W hSw; clear hSw; go_simp)
    simp only [Act.put, List.setIfInBounds_toArray, List.set_cons_zero, List.set_cons_succ]
    refine wpAnyH_take_at (i := 13) (some 46) (.int .i64 p') rfl rfl (by kernel_rfl) (by kernel_rfl) (by kernel_rfl) (fun _ _ _ h => h) (Or.inl ⟨by rfl, ?_⟩) L7 ?_
    · (intro W hSw; clear hSw; go_simp)
    simp only [Act.put, List.setIfInBounds_toArray, List.set_cons_zero, List.set_cons_succ]
    refine wpAnyH_take_at (i := 14) (some 47) (.int .i64 er) rfl rfl (by kernel_rfl) (by kernel_rfl) (by kernel_rfl) (fun _ _ _ h => h) (Or.inl ⟨by rfl, ?_⟩) L7 ?_
    · (intro W hSw; clear hSw; go_simp)
    simp only [Act.put, List.setIfInBounds_toArray, List.set_cons_zero, List.set_cons_succ]
    refine wpAnyH_only (i := 16) (by kernel_rfl) rfl rfl (fun K hK => ?_)
    refine wp_store_row 37 _ _ rfl _ #[.int .i64 kd, .int .u64 uu, .int .i64 un, .bool ub, .string us, .int .i64 um] rfl rfl 37 #[.int .i64 0, .int .u64 0, .int .i64 0, .bool false, .string ByteArray.empty, .int .i64 0] row7 infoV6 rfl (by simp [Value.oneCell']) ?_
    have L9 := hHeld.below (below_setRow (cs := #[.int .i64 kd, .int .u64 uu, .int .i64 un, .bool ub, .string us, .int .i64 um]) B7 (Nat.le_refl _))
    have row9 := setRow_heap _ _ _ #[.int .i64 kd, .int .u64 uu, .int .i64 un, .bool ub, .string us, .int .i64 um] _ _ row7
    refine hK.out _ _ L9 ?_
    clear hK K
    refine wpAnyH_take_at (i := 17) (some 9) (.int .i64 p') rfl rfl (by kernel_rfl) (by kernel_rfl) (by kernel_rfl) (fun _ _ _ h => h) (Or.inl ⟨by rfl, ?_⟩) L9 ?_
    · (intro W hSw; clear hSw; go_simp)
    simp only [Act.put, List.setIfInBounds_toArray]
    refine wpAnyH_take_at (i := 18) (some 10) (.int .i64 er) rfl rfl (by kernel_rfl) (by kernel_rfl) (by kernel_rfl) (fun _ _ _ h => h) (Or.inl ⟨by rfl, ?_⟩) L9 ?_
    · (intro W hSw; clear hSw; go_simp)
    simp only [Act.put]
    refine wpAnyH_done (by kernel_rfl) ?_ _
    have hSA : S < w5.drew.heap.size := by rw [← hS]; exact lt_of_row hHeld.t0
    obtain ⟨W9, hW9⟩ : ∃ W9, Hid (w7.setRow w5.drew.heap.size #[.int .i64 kd, .int .u64 uu, .int .i64 un, .bool ub, .string us, .int .i64 um] = W9) := ⟨_, rfl⟩
    try rw [show (ByteArray.mk #[]) = ByteArray.empty from rfl]
    rw [hW9.out] at L9 row9
    have hW9b : Hid (w7.setRow w5.heap.size #[.int .i64 kd, .int .u64 uu, .int .i64 un, .bool ub, .string us, .int .i64 um] = W9) := hW9
    try rw [hW9.out]
    try rw [hW9b.out]
    obtain ⟨A, hA⟩ : ∃ A, Hid (w5.heap.size = A) := ⟨_, rfl⟩
    have hSA2 : S < w5.heap.size := hSA
    have row92 : W9.heap[w5.heap.size]? = some (.cells #[.int .i64 kd, .int .u64 uu, .int .i64 un, .bool ub, .string us, .int .i64 um] 37 (0, 0)) := row9
    clear row9 hSA
    have row9 := row92
    have hSA := hSA2
    clear row92 hSA2 hW9 hW9b row7 B7 L6 L7 hHeld
    rw [hA.out] at row9 hSA ⊢
    clear hA
    clear hrd Lh
    obtain ⟨y0, y1, y2, y3, g1, g2, g3⟩ := L9.rx.c
    have L9h := hidIt L9
    have t0' := L9.t0
    rw [hS] at t0'
    have t1' := L9.t1
    rw [hS] at t1'
    have t0h := hidIt t0'
    obtain ⟨c10, c11, c12, c13, c14, c15, f10, f11, f12, f13, f14, f15, c00, c01, c02, c03, c04, c05, f00, f01, f02, f03, f04, f05⟩ := two_of t0' t1'
    clear t0' t1'
    have a0 : W9.cell? ⟨A, 0, none⟩ = some (.int .i64 kd) := by rw [cell_of_row W9 A 0 _ _ _ row9]; rfl
    have a1 : W9.cell? ⟨A, 1, none⟩ = some (.int .u64 uu) := by rw [cell_of_row W9 A 1 _ _ _ row9]; rfl
    have a2 : W9.cell? ⟨A, 2, none⟩ = some (.int .i64 un) := by rw [cell_of_row W9 A 2 _ _ _ row9]; rfl
    have a3 : W9.cell? ⟨A, 3, none⟩ = some (.bool ub) := by rw [cell_of_row W9 A 3 _ _ _ row9]; rfl
    have a4 : W9.cell? ⟨A, 4, none⟩ = some (.string us) := by rw [cell_of_row W9 A 4 _ _ _ row9]; rfl
    have a5 : W9.cell? ⟨A, 5, none⟩ = some (.int .i64 um) := by rw [cell_of_row W9 A 5 _ _ _ row9]; rfl
    have hS0 : ¬ X = S := by have := L9.lt; omega
    have hS1 : ¬ X = S + 1 := by have := L9.lt; omega
    have hS2 : ¬ S = X := by omega
    have hS3 : ¬ S + 1 = X := by omega
    have hA0 : ¬ A = X := by have := L9.lt; have := hSA; omega
    have hA1 : ¬ X = A := by omega
    have row9h := hidIt row9
    clear L9 row9
    by_cases her : er = 0
    · subst her
      rw [if_pos rfl] at hxs
      go_wp2_with (fail)
      have u0 := heap_setCell_same _ X 2 _ _ (.int .i64 pos) L9h.out.rx.row
      have u1 := heap_setCell_same _ X 1 _ _ (.int .i64 p') u0
      have e0 := (heap_setCell_other _ ⟨X, 1, none⟩ S (.int .i64 p') (fun e => by have : S = X := e; omega)).trans ((heap_setCell_other W9 ⟨X, 2, none⟩ S (.int .i64 pos) (fun e => by have : S = X := e; omega)).trans t0h.out)
      have e1 := heap_setCell_same _ S 0 _ _ (.int .i64 kd) e0
      have e2 := heap_setCell_same _ S 1 _ _ (.int .u64 uu) e1
      have e3 := heap_setCell_same _ S 2 _ _ (.int .i64 un) e2
      have e4 := heap_setCell_same _ S 3 _ _ (.bool ub) e3
      have e5 := heap_setCell_same _ S 4 _ _ (.string us) e4
      have e6 := heap_setCell_same _ S 5 _ _ (.int .i64 um) e5
      refine ⟨rfl, _, results_cell_row rfl _ _ S _ _ _ _ rfl e6 Try.underlying37 rfl (by kernel_rfl), ?_⟩
      obtain ⟨F1, F2⟩ := fin6 hh.out hS (g_set (i := 1) (v := .int .i64 p') (g_set (i := 2) (v := .int .i64 pos) (g_below L9h.out.bel))) u1 hple.out hh.out.le
      unfold XPost
      rw [hxs.out]
      exact ⟨rfl, F1, F2⟩
    · have t1 : ¬ (er : Int) = 0 := by omega
      rw [if_neg her] at hxs
      go_wp2_with (fail)
      have u0 := heap_setCell_same _ X 3 _ _ (.int .i64 er) L9h.out.rx.row
      have e0 := (heap_setCell_other W9 ⟨X, 3, none⟩ S (.int .i64 er) (fun e => by have : S = X := e; omega)).trans t0h.out
      have e1 := heap_setCell_same _ S 0 _ _ (.int .i64 kind) e0
      have e2 := heap_setCell_same _ S 1 _ _ (.int .u64 0) e1
      have e3 := heap_setCell_same _ S 2 _ _ (.int .i64 0) e2
      have e4 := heap_setCell_same _ S 3 _ _ (.bool false) e3
      have e5 := heap_setCell_same _ S 4 _ _ (.string ⟨#[]⟩) e4
      have e6 := heap_setCell_same _ S 5 _ _ (.int .i64 most) e5
      refine ⟨rfl, _, results_cell_row rfl _ _ S _ _ _ _ rfl e6 Try.underlying37 rfl (by kernel_rfl), ?_⟩
      obtain ⟨F1, F2⟩ := fin6 hh.out hS (g_set (i := 3) (v := .int .i64 er) (g_below L9h.out.bel)) u0 hh.out.le hh.out.lastle
      unfold XPost
      rw [hxs.out]
      exact ⟨rfl, F1, F2⟩
end Go.Proofs.Ytfdbdhknamkipaa
