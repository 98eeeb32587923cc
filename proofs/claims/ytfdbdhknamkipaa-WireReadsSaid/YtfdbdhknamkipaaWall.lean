import Derived.Test.YtfdbdhknamkipaaExt
namespace Go.Proofs.Ytfdbdhknamkipaa
open Go.RowKit
/-- block B is a writer with these bytes, which lie in block d, and this error -/
def WRd (w : World) (B : Nat) (d : Option Nat) (bs : List Nat) (err : Nat) : Prop :=
  ∃ a cap, w.heap[B]? = some (.cells #[.slice a bs.length cap, .int .i64 err] 67 (0, 0)) ∧ w.ownsRow (B + 1) 5 1 (.slice a bs.length cap) bs.length (vals bs) ∧ (Value.slice a bs.length cap).ownBlock = d
theorem WRd.wr {w : World} {B : Nat} {d : Option Nat} {bs : List Nat} {err : Nat} (h : WRd w B d bs err) : WR w B bs err := by
  obtain ⟨a, cap, h1, h2, _⟩ := h; exact ⟨a, cap, h1, h2⟩
theorem WR.d {w : World} {B : Nat} {bs : List Nat} {err : Nat} (h : WR w B bs err) : ∃ d, WRd w B d bs err := by
  obtain ⟨a, cap, h1, h2⟩ := h; exact ⟨_, a, cap, h1, h2, rfl⟩
theorem WRd.dlt {w : World} {B : Nat} {d : Option Nat} {bs : List Nat} {err : Nat} (h : WRd w B d bs err) : ∀ q, d = some q → B < q ∧ q < w.heap.size := by
  obtain ⟨a, cap, _, h2, rfl⟩ := h
  intro q hq
  have := h2.lt q hq
  omega
/-- from w to w' only blocks B and d have been written -/
def WG (B : Nat) (d : Option Nat) (w w' : World) : Prop := ∀ k, k < w.heap.size → k ≠ B → some k ≠ d → w'.heap[k]? = w.heap[k]?
theorem Bytes.blocks {w w' : World} {a : Option Addr} {bs : List Nat} (h : Bytes w a bs) (hb : ∀ x, a = some x → w'.heap[x.block]? = w.heap[x.block]?) : Bytes w' a bs := by
  intro i hi
  obtain ⟨b, off, h2, h3⟩ := h i hi
  exact ⟨b, off, h2, (World.cell?_of_block (a := ⟨b, off + i, none⟩) (show w'.heap[b]? = w.heap[b]? from hb _ h2)).trans h3⟩
set_option maxHeartbeats 1000000 in
theorem wuint2_any (B n : Nat) (d : Option Nat) (bs : List Nat) (hn : n < 18446744073709551616) (hbig : bs.length + 10 ≤ 140737488355328) (w : World) (h : WRd w B d bs 0) :
    Calls Try.prog 25 #[.pointer (some ⟨B, 0, none⟩), .int .u64 n] w fun e w' => e = .returned (.tuple #[]) ∧ WR w' B (bs ++ En.enc n) 0 ∧ Below B w w' ∧ WG B d w w' := by
  have hlt := h.wr.lt
  obtain ⟨a, cap, hB, hown, hd⟩ := h
  have c0 : w.cell? ⟨B, 0, none⟩ = some (.slice a bs.length cap) := by rw [cell_of_row w B 0 _ _ _ hB]; rfl
  have c1 : w.cell? ⟨B, 1, none⟩ = some (.int .i64 0) := by rw [cell_of_row w B 1 _ _ _ hB]; rfl
  have hd2 := hidIt hd
  clear hd
  go_enter Try.func25, Try.ntmps25
  go_wp2_with (fail)
  refine (extend2_any _ bs.length (B + 1) n bs hn rfl hbig _ (by omega) hown).mono ?_
  rintro e w1 ⟨v', rfl, hown1, hb1, hfd⟩
  obtain ⟨a', cap', rfl, _, _⟩ := owned_bytes hown1 rfl
  have hfd2 := hidIt hfd
  clear hfd
  have hB1 : w1.heap[B]? = some (.cells #[.slice a bs.length cap, .int .i64 0] 67 (0, 0)) := (hb1.block B (by omega)).trans hB
  have d0 : w1.cell? ⟨B, 0, none⟩ = some (.slice a bs.length cap) := by rw [cell_of_row w1 B 0 _ _ _ hB1]; rfl
  have d1 := frozen_of_row w1 B 0 _ _ hB1
  clear c0 c1
  go_wp2_with (fail)
  go_end0
  refine ⟨rfl, ⟨a', cap', ?_, ?_⟩, (hb1.mono (by omega)).setCell (by simp) _, ?_⟩
  · rw [List.length_append, heap_setCell_same w1 B 0 _ _ _ hB1]; rfl
  · have := ownsRow_setCell_below hown1 (a := ⟨B, 0, none⟩) (by simp) (Value.slice a' (bs.length + (En.enc n).length) cap')
    rw [List.length_append] at *
    exact this
  · intro k hk hkB hkd
    rw [heap_setCell_other w1 ⟨B, 0, none⟩ k _ (fun e => hkB e)]
    exact hfd2.out.1.block k hk (by rw [hd2.out]; exact hkd)
set_option maxHeartbeats 1000000 in
theorem writeAllS_any (B : Nat) (d : Option Nat) (a : Option Addr) (cap : Nat) (bs ds : List Nat) (hbig : bs.length + ds.length + 20 ≤ 140737488355328) (w : World) (h : WRd w B d bs 0) (hb : Bytes w a ds) (hnil : a = none → cap = 0 ∧ ds = []) (hne : ∀ x, a = some x → x.block ≠ B ∧ some x.block ≠ d ∧ x.block < w.heap.size) :
    Calls Try.prog 64 #[.pointer (some ⟨B, 0, none⟩), .slice a ds.length cap] w fun e w' => e = .returned (.tuple #[]) ∧ WR w' B (bs ++ En.enc ds.length ++ ds) 0 ∧ Below B w w' := by
  have hl10 := (En.enc_len ds.length).2
  go_enter Try.func64, Try.ntmps64
  go_wp2_with (fail)
  refine (wuint2_any B ds.length d bs (by omega) (by omega) _ h).mono ?_
  rintro e w1 ⟨rfl, h1, hb1, hwg⟩
  have hby1 : Bytes w1 a ds := hb.blocks (fun x hx => hwg x.block (hne x hx).2.2 (hne x hx).1 (hne x hx).2.1)
  have hlt := h1.lt
  obtain ⟨a1, cap1, hB1, hown1⟩ := h1
  have c0 : w1.cell? ⟨B, 0, none⟩ = some (.slice a1 (bs ++ En.enc ds.length).length cap1) := by rw [cell_of_row w1 B 0 _ _ _ hB1]; rfl
  have c1 : w1.cell? ⟨B, 1, none⟩ = some (.int .i64 0) := by rw [cell_of_row w1 B 1 _ _ _ hB1]; rfl
  have hzl : (bs ++ En.enc ds.length).length ≤ bs.length + 10 := by simp; omega
  have hW := hidIt hwg
  clear hwg hb h
  generalize hzs : bs ++ En.enc ds.length = zs at *
  have hz2 := hidIt hzs
  clear hzs
  go_wp2_with (at_builtin; refine wpList_append_bytes _ rfl _ _ rfl (B + 1) _ zs.length (vals zs) rfl hown1 a _ cap ds rfl rfl hby1 hnil (by omega) (by omega) ?_)
  intro v2 w2 hown2 hg2
  have hown3 := owned_append hown2 (m := (zs ++ ds).length) (by simp)
  obtain ⟨a2, cap2, rfl, _, _⟩ := owned_bytes hown3 rfl
  have hb2 : Below (B + 1) w1 w2 := (Below.refl _ _).grown hg2 (by omega) (fun q hq => (hown1.lt q hq).1)
  have hB2 : w2.heap[B]? = some (.cells #[.slice a1 zs.length cap1, .int .i64 0] 67 (0, 0)) := (hb2.block B (by omega)).trans hB1
  have d0 : w2.cell? ⟨B, 0, none⟩ = some (.slice a1 zs.length cap1) := by rw [cell_of_row w2 B 0 _ _ _ hB2]; rfl
  have d1 := frozen_of_row w2 B 0 _ _ hB2
  clear c0 c1 hown1 hown2 hg2 hby1
  go_wp2_with (fail)
  go_end0
  rw [hz2.out]
  refine ⟨rfl, ⟨a2, cap2, ?_, ?_⟩, (hb1.trans (hb2.mono (by omega))).setCell (by simp) _⟩
  · rw [heap_setCell_same w2 B 0 _ _ _ hB2, List.length_append]; rfl
  · have := ownsRow_setCell_below hown3 (a := ⟨B, 0, none⟩) (by simp) (Value.slice a2 (zs.length + ds.length) cap2)
    rw [List.length_append] at *
    exact this
theorem wbytes_any (B : Nat) (d : Option Nat) (a : Option Addr) (cap : Nat) (bs ds : List Nat) (hbig : bs.length + ds.length + 20 ≤ 140737488355328) (w : World) (h : WRd w B d bs 0) (hb : Bytes w a ds) (hnil : a = none → cap = 0 ∧ ds = []) (hne : ∀ x, a = some x → x.block ≠ B ∧ some x.block ≠ d ∧ x.block < w.heap.size) :
    Calls Try.prog 41 #[.pointer (some ⟨B, 0, none⟩), .slice a ds.length cap] w fun e w' => e = .returned (.tuple #[]) ∧ WR w' B (bs ++ En.enc ds.length ++ ds) 0 ∧ Below B w w' := by
  go_enter Try.func41, Try.ntmps41
  go_wp2_with (fail)
  refine (writeAllS_any B d a cap bs ds hbig _ h hb hnil hne).mono ?_
  rintro e w1 ⟨rfl, h1, hb1⟩
  go_wp2_with (fail)
  go_end0
  exact ⟨rfl, h1, hb1⟩
/-- the method Bytes of the reader -/
theorem rBytes_any (R : Nat) (a : Option Addr) (cap : Nat) (bs : List Nat) (pos last : Nat) (most : Int) (hm1 : -9223372036854775808 ≤ most) (hm2 : most ≤ 9223372036854775807) (w : World) (hsz : bs.length ≤ 140737488355328) (h : RD w R a cap bs pos last 0) (hb : ∀ x ∈ bs, x < 256) :
    Calls Try.prog 35 #[.pointer (some ⟨R, 0, none⟩), .int .i64 most] w (BytesPost R a cap bs pos w (measure bs pos most)) := by
  have hR := h.lt
  have hmf : ∀ (fn : Fn) (first cap : Array Value) (w : World), (Instr.makeFunc fn first cap).run Try.prog w = .ok (.func fn first cap) w := fun _ _ _ _ => rfl
  have hA : RD ((w.alloc (.cells #[.pointer (some ⟨R, 0, none⟩)] 30)).alloc (.cells #[.int .i64 most] 3)) R a cap bs pos last 0 := (h.alloc _).alloc _
  have hG : w.grownBy ((w.alloc (.cells #[.pointer (some ⟨R, 0, none⟩)] 30)).alloc (.cells #[.int .i64 most] 3)) (some R) := g_alloc (g_alloc (g_refl _ _) _) _
  have q0 : ((w.alloc (.cells #[.pointer (some ⟨R, 0, none⟩)] 30)).alloc (.cells #[.int .i64 most] 3)).cell? ⟨w.heap.size, 0, none⟩ = some (.pointer (some ⟨R, 0, none⟩)) := by simp
  have q1 : ((w.alloc (.cells #[.pointer (some ⟨R, 0, none⟩)] 30)).alloc (.cells #[.int .i64 most] 3)).cell? ⟨w.heap.size + 1, 0, none⟩ = some (.int .i64 most) := by simp
  have hr := readS_any w.heap.size (w.heap.size + 1) R a cap bs pos last most hm1 hm2 _ q0 q1 (by omega) (by omega) hsz hA hb
  have hG2 := hidIt hG
  clear hG q0 q1 hA
  cases hn : measure bs pos most with
  | inl er =>
    rw [hn] at hr
    have hr2 := hidIt hr
    clear hr hn
    go_enter Try.func35, Try.ntmps35
    go_wp2_with (fail)
    refine hr2.out.mono ?_
    rintro e w1 ⟨hg, rfl, hrd⟩
    go_wp2_with (fail)
    go_ret
    exact ⟨g_trans hG2.out hg, rfl, hrd⟩
  | inr r =>
    obtain ⟨at', n⟩ := r
    rw [hn] at hr
    have hr2 := hidIt hr
    clear hr hn
    go_enter Try.func35, Try.ntmps35
    go_wp2_with (fail)
    refine hr2.out.mono ?_
    rintro e w1 ⟨hg, a', c', rfl, hown, hrd⟩
    go_wp2_with (fail)
    go_ret
    exact ⟨g_trans hG2.out hg, a', c', rfl, owns_weak hown hG2.out.size, hrd⟩
end Go.Proofs.Ytfdbdhknamkipaa
