import Derived.Test.YtlpggkdmjmlpkaaRows
import Derived.WalkKit
import Derived.ProofKit
import Derived.Outline
import Derived.WalkLawsBesides
import Derived.Laws.BitsAllLaws
import Derived.Laws.Rows
import Derived.Laws.CopyRow
import Derived.Laws.Pointers
import Derived.Laws.BytesString
import Derived.Laws.AppendOwnNone
import Derived.Deep.QuietTactic
import Derived.BigQuiet
import Derived.Deep.RegionHeld3
import Derived.Deep.AppendLies
import Derived.StillTailTactics
import Derived.WalkSpells
import Derived.IntWalk
import Derived.OpenShut
namespace Go.Proofs.Ytlpggkdmjmlpkaa
open Go.RowKit
theorem hidIt {p : Prop} (h : p) : Hid p := h
theorem ret_int {k : IntKind} {a b : Int} (h : a = b) : Ending.returned (.int k a) = .returned (.int k b) := by rw [h]
theorem below_then {B : Nat} {w w1 w2 : World} (h : Below B w w1) (k : Below w1.heap.size w1 w2) (hB : B ≤ w.heap.size := by exact Nat.le_refl _) : Below B w w2 := h.trans (k.mono (Nat.le_trans hB h.size))
theorem info5 : (Try.prog.info? 5).map (fun i => (i.zero, i.size, i.bytes)) = some (some (.int .u8 0), 1, 1) := by kernel_rfl
def vals (bs : List Nat) : List Value := bs.map fun (b : Nat) => Value.int .u8 (b : Int)
theorem vals_append (a b : List Nat) : vals a ++ vals b = vals (a ++ b) := by simp [vals]
theorem vals_len (a : List Nat) : (vals a).length = a.length := by simp [vals]
/-- the slice at a with n bytes reads as bs -/
def Bytes (w : World) (a : Option Addr) (bs : List Nat) : Prop := ∀ i, i < bs.length → ∃ b off, a = some ⟨b, off, none⟩ ∧ w.cell? ⟨b, off + i, none⟩ = some (.int .u8 (bs.getD i 0 : Nat))
theorem bytes_lt {w : World} {b off : Nat} {v : Value} (h : w.cell? ⟨b, off, none⟩ = some v) : b < w.heap.size := World.block_lt_of_cell? w ⟨b, off, none⟩ h
theorem Bytes.below {w wr : World} {a : Option Addr} {bs : List Nat} (h : Bytes w a bs) (hb : Below w.heap.size w wr) : Bytes wr a bs := by
  intro i hi
  obtain ⟨b, off, h2, h3⟩ := h i hi
  exact ⟨b, off, h2, (hb.cell (p := ⟨b, off + i, none⟩) (bytes_lt h3)).trans h3⟩
theorem owned_bytes {w : World} {base n : Nat} {v : Value} {bs : List Nat} (h : w.ownsRow base 5 1 v n (vals bs)) (hn : n = bs.length) :
    ∃ a cap, v = .slice a bs.length cap ∧ Bytes w a bs ∧ (∀ x, a = some x → base ≤ x.block) := by
  subst hn
  rcases h.2 with ⟨rfl, h0⟩ | ⟨g, cap, cur, rfl, hg0, hg, _, _, _, ht⟩
  · exact ⟨none, 0, by rw [h0], fun i hi => by omega, fun x hx => by cases hx⟩
  · refine ⟨_, cap, rfl, fun i hi => ⟨g, 0, rfl, ?_⟩, fun x hx => by cases hx; exact hg0⟩
    rw [cell_of_row w g (0 + i) _ _ _ hg, Nat.zero_add]
    have h1 : (vals bs)[i]? = some (.int .u8 (bs.getD i 0 : Nat)) := by simp [vals, List.getD, hi]
    rw [← ht, List.getElem?_take] at h1
    split at h1
    · simpa using h1
    · cases h1
/-- only block R has been written -/
theorem g_refl (w : World) (r : Option Nat) : w.grownBy w r := ⟨rfl, rfl, rfl, Nat.le_refl _, fun _ _ _ => rfl⟩
theorem g_trans {a b c : World} {r : Option Nat} (h : a.grownBy b r) (k : b.grownBy c r) : a.grownBy c r :=
  ⟨k.os.trans h.os, k.tape.trans h.tape, k.output.trans h.output, Nat.le_trans h.size k.size, fun i hi hr => (k.block i (Nat.lt_of_lt_of_le hi h.size) hr).trans (h.block i hi hr)⟩
theorem g_drewN {a b : World} {r : Option Nat} (h : a.grownBy b r) (m : Nat) : a.grownBy (b.drewN m) r := ⟨h.os, h.tape, h.output, h.size, h.block⟩
theorem g_set {a b : World} {R i : Nat} {v : Value} (h : a.grownBy b (some R)) : a.grownBy (b.setCell ⟨R, i, none⟩ v) (some R) :=
  ⟨h.os, h.tape, h.output, by simpa using h.size, fun k hk hr => (heap_setCell_other b ⟨R, i, none⟩ k v (fun e => hr (by rw [e]))).trans (h.block k hk hr)⟩
theorem g_alloc {a b : World} {r : Option Nat} (h : a.grownBy b r) (o : Obj) : a.grownBy (b.alloc o) r :=
  ⟨h.os, h.tape, h.output, by have := h.size; simp; omega, fun k hk hr => (Below.heap_alloc b o k (Nat.lt_of_lt_of_le hk h.size)).trans (h.block k hk hr)⟩
theorem g_below {a b : World} {r : Option Nat} (h : Below a.heap.size a b) : a.grownBy b r := ⟨h.os, h.tape, h.output, h.size, fun k hk _ => h.block k hk⟩
theorem below_g {a b : World} {R B : Nat} (h : a.grownBy b (some R)) (hB : B ≤ R) (hs : R < a.heap.size) : Below B a b := ⟨h.os, h.tape, h.output, h.size, fun k hk => h.block k (by omega) (fun e => by cases e; omega)⟩
theorem Bytes.g {w wr : World} {a : Option Addr} {bs : List Nat} {R : Nat} (h : Bytes w a bs) (hg : w.grownBy wr (some R)) (hne : ∀ x, a = some x → x.block ≠ R) : Bytes wr a bs := by
  intro i hi
  obtain ⟨b, off, h2, h3⟩ := h i hi
  exact ⟨b, off, h2, hg.cell h3 (fun e => by cases e; exact hne _ h2 rfl)⟩
theorem Bytes.drewN {w : World} {a : Option Addr} {bs : List Nat} (h : Bytes w a bs) (m : Nat) : Bytes (w.drewN m) a bs := h
theorem add_block (x : Addr) (n : Nat) : (x.add n).block = x.block := by unfold Addr.add; split <;> rfl
theorem sub_bytes {w : World} {a : Option Addr} {bs : List Nat} (h : Bytes w a bs) (pos size : Nat) : Bytes w (a.map fun x => x.add pos) ((bs.drop pos).take size) := by
  intro i hi
  have hl : i < size ∧ pos + i < bs.length := by simp at hi; omega
  obtain ⟨b, off, rfl, h3⟩ := h (pos + i) hl.2
  refine ⟨b, off + pos, ?_, ?_⟩
  · have hadd : (⟨b, off, none⟩ : Addr).add pos = ⟨b, off + pos, none⟩ := by unfold Addr.add; split <;> simp_all
    simp [hadd]
  · rw [Nat.add_assoc, h3]
    simp [List.getD, hl.1]
theorem Bytes.blocks {w w' : World} {a : Option Addr} {bs : List Nat} (h : Bytes w a bs) (hb : ∀ x, a = some x → w'.heap[x.block]? = w.heap[x.block]?) : Bytes w' a bs := by
  intro i hi
  obtain ⟨b, off, h2, h3⟩ := h i hi
  exact ⟨b, off, h2, (World.cell?_of_block (a := ⟨b, off + i, none⟩) (show w'.heap[b]? = w.heap[b]? from hb _ h2)).trans h3⟩
theorem bytes_cells {w : World} {x : Addr} {bs : List Nat} (h : Bytes w (some x) bs) : ∀ j u, (vals bs)[j]? = some u → w.cell? (x.add j) = some u := by
  intro j u hj
  by_cases hjl : j < bs.length
  · obtain ⟨b, off, hx, hc⟩ := h j hjl
    simp only [Option.some.injEq] at hx
    subst hx
    have hu : u = .int .u8 ((bs.getD j 0 : Nat) : Int) := by
      have : (vals bs)[j]? = some (.int .u8 ((bs.getD j 0 : Nat) : Int)) := by simp [vals, List.getD, hjl]
      rw [this] at hj; exact (Option.some.inj hj).symm
    subst hu
    have hadd : (⟨b, off, none⟩ : Addr).add j = ⟨b, off + j, none⟩ := by unfold Addr.add; split <;> simp_all
    rw [hadd]
    exact hc
  · rw [List.getElem?_eq_none (by simp [vals]; omega)] at hj; cases hj
theorem vals_one {bs : List Nat} : ∀ u ∈ vals bs, u.oneCell' = true := by
  intro u hu
  simp only [vals, List.mem_map] at hu
  obtain ⟨b, _, rfl⟩ := hu
  rfl
/-- a slice of bytes as it comes in: it reads as bs -/
structure RowB (w : World) (a : Option Addr) (len cap : Nat) (bs : List Nat) : Prop where
  bytes : Bytes w a bs
  len : len = bs.length
  nil : a = none → cap = 0 ∧ bs = []
  lt : ∀ x ∈ bs, x < 256
  lecap : bs.length ≤ cap
  capm : cap ≤ maxLen
theorem getD_take_map (zs : List Int) (n i : Nat) (hi : i < n) (h : n ≤ zs.length) : ((zs.take n).map Int.toNat).getD i 0 = (zs.getD i 0).toNat := by
  have h2 : i < zs.length := by omega
  simp [List.getD, hi, h2]
/-- append of bytes, nil or not, to a row of the call's own -/
theorem wpList_append_bytes (w : World) {ops : Array Oper} {rest : List Oper} {o : Oper} {act : Act} {Q : Exit → Act → World → Prop} (hgd : o.guard = none) (s x : Operand)
    (ho : o.op = .call { callee := .builtin .append, args := #[s, x], argTypes := #[39, 39] })
    (base : Nat) (v : Value) (n : Nat) (xs : List Value) (hs : act.eval s = v) (hown : w.ownsRow base 5 1 v n xs)
    (a : Option Addr) (len cap : Nat) (bs : List Nat) (hx : act.eval x = .slice a len cap) (hl : len = bs.length) (hb : Bytes w a bs) (hnil : a = none → cap = 0 ∧ bs = []) (hbig : n + bs.length ≤ 140737488355328) (hbase : base ≤ w.heap.size)
    (h : ∀ v' w', w'.ownsRow base 5 1 v' (n + bs.length) (xs ++ vals bs) → w.grownBy w' v.ownBlock → wpList Try.prog ops Q rest (act.put o.dst v') w') : wpList Try.prog ops Q (o :: rest) act w := by
  subst hl
  obtain ⟨i0, hi, hz0, hz1, hz2⟩ := info_parts info5
  match a, hb, hnil, hx with
  | none, _, hnil, hx =>
    obtain ⟨rfl, rfl⟩ := hnil rfl
    exact wpList_append_own_none hgd s x 39 ho base 5 i0 1 Try.underlying39 hi v n xs hs hown hx (h v w (by simpa [vals] using hown) (g_refl _ _))
  | some y, hb, _, hx =>
    exact wpList_append_own _ hgd s x 39 ho base 5 i0 (.int .u8 0) 1 1 Try.underlying39 hi hz0 hz1 hz2 rfl (by decide) v n xs hs hown y bs.length cap (vals bs) hx (by simp [vals]) (bytes_cells hb) vals_one (by unfold maxLen; omega) (by omega) hbase (fun v' w' h1 h2 _ => h v' w' h1 h2)
theorem owned_append {w : World} {base : Nat} {v : Value} {n m : Nat} {xs ys : List Nat} (h : w.ownsRow base 5 1 v n (vals xs ++ vals ys)) (hn : n = m) : w.ownsRow base 5 1 v m (vals (xs ++ ys)) := by
  subst hn; rw [← vals_append]; exact h
def str (ds : List Nat) : ByteArray := ⟨(ds.map UInt8.ofNat).toArray⟩
theorem conv_str (w : World) (a : Option Addr) (n c : Nat) (ds : List Nat) (hn : n = ds.length) (h : Bytes w a ds) : (convert 39 9 (.slice a n c)).run Try.prog w = .ok (.string (str ds)) w := by
  subst hn
  match a, h with
  | none, h =>
    have hnil : ds = [] := by
      cases ds with
      | nil => rfl
      | cons b t => obtain ⟨_, _, h2, _⟩ := h 0 (by simp); cases h2
    subst hnil
    exact run_convert_bytes_nil w 39 5 Try.underlying39 Try.underlying5 _ _ 9 Try.underlying9
  | some x, h =>
    have hl : (loadCells x ds.length).run Try.prog w = .ok ((ds.map fun (b : Nat) => (b : Int)).map (Value.int .u8)).toArray w := by
      have := run_loadCells_list (P := Try.prog) w x (vals ds) (bytes_cells h)
      rw [vals_len] at this
      have e : (ds.map fun (b : Nat) => (b : Int)).map (Value.int .u8) = vals ds := by rw [List.map_map]; rfl
      rw [e]; exact this
    rw [run_convert_bytes_string w 39 9 5 _ _ _ Try.underlying39 Try.underlying5 Try.underlying9, run_bytesToString w x ds.length c _ hl, foldl_push_bytes]
    simp [str, ByteArray.empty, ByteArray.emptyWithCapacity]
    rfl
/-- the bytes of a string -/
def ofStr (s : ByteArray) : List Nat := s.data.toList.map UInt8.toNat
theorem ofStr_len (s : ByteArray) : (ofStr s).length = s.size := by unfold ofStr; rw [List.length_map, Array.length_toList]; rfl
theorem strCells_vals (s : ByteArray) : Lib.strCells s = vals (ofStr s) := by unfold Lib.strCells vals ofStr; rw [List.map_map]; rfl
theorem ofStr_lt (s : ByteArray) : ∀ x ∈ ofStr s, x < 256 := by
  intro x hx
  simp only [ofStr, List.mem_map] at hx
  obtain ⟨b, _, rfl⟩ := hx
  exact UInt8.toNat_lt b
theorem str_ofStr (s : ByteArray) : str (ofStr s) = s := by
  unfold str ofStr
  rw [List.map_map]
  have : (UInt8.ofNat ∘ UInt8.toNat) = id := by funext b; simp
  rw [this]; simp
/-- append of a string to a row of the call's own -/
theorem wpList_append_str (w : World) {ops : Array Oper} {rest : List Oper} {o : Oper} {act : Act} {Q : Exit → Act → World → Prop} (hgd : o.guard = none) (sl x : Operand)
    (ho : o.op = .call { callee := .builtin .append, args := #[sl, x], argTypes := #[39, 9] })
    (base : Nat) (v : Value) (n : Nat) (xs : List Nat) (hs : act.eval sl = v) (hn : n = xs.length) (hown : w.ownsRow base 5 1 v n (vals xs)) (s : ByteArray) (hx : act.eval x = .string s) (hbig : n + s.size ≤ 140737488355328) (hbase : base ≤ w.heap.size)
    (h : ∀ a' c' w', w'.ownsRow base 5 1 (.slice a' (xs ++ ofStr s).length c') (xs ++ ofStr s).length (vals (xs ++ ofStr s)) → w.grownBy w' v.ownBlock → wpList Try.prog ops Q rest (act.put o.dst (.slice a' (xs ++ ofStr s).length c')) w') : wpList Try.prog ops Q (o :: rest) act w := by
  obtain ⟨i0, hi, hz0, hz1, hz2⟩ := info_parts info5
  refine Lib.wpList_append_own_string w hgd sl x 39 9 ho base 5 i0 Try.underlying39 Try.underlying9 hi hz0 hz1 hz2 v n (vals xs) hs hown s hx (by unfold maxLen; omega) hbig hbase ?_
  intro v' w' ho' hg _
  rw [strCells_vals, vals_append] at ho'
  have hl : n + s.size = (xs ++ ofStr s).length := by simp [ofStr_len, hn]
  rw [hl] at ho'
  obtain ⟨a', c', rfl, _, _⟩ := owned_bytes ho' rfl
  exact h a' c' w' ho' hg
end Go.Proofs.Ytlpggkdmjmlpkaa
